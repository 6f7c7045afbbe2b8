/- texts merged, part 2: XNrBytes XRowsBox XNum XNumP XFeSpec XFeRoot XFeMul64 XFeCarry XFeJoin XFeMul XFeSq XFeAdd XFeLeast XFeBytes XFeBytesOf -/
import Derived.Test.YtcmnecnbcohaeaaGreatDoorGtB1
import Derived.ChangeKeysEq
import Derived.Shelf.Bits.Mul64
import Derived.Shelf.Spec.BitsCarry
import Derived.Test.YtcmnecnbcohaeaaGreatDoorProg
import Derived.WalkKit
import Derived.Lib.Hide
import Derived.WalkSpells
import Derived.WalkLawsBesides
import Derived.BigQuiet
import Derived.Deep.QuietTactic
import Derived.Deep.RegionHeld3
import Derived.StillTailTactics
import Derived.Outline
import Derived.RegionTactic
import Derived.ChangeAlike
import Derived.BigRegion
/- The document's field: Right, Bytes; numbers held against each other; bytes held against each other. -/
namespace Go.Proofs.YtcmnecnbcohaeaaGreatDoor
open Go.RowKit Ns Ow
namespace Nr
set_option maxRecDepth 100000 in
set_option maxHeartbeats 2000000 in
theorem right_any (e : List Nat) (w0 : World) (le : e.length = 5) (he : ∀ j, e.getD j 0 < 18446744073709551616) : Calls Tryz.prog 29 #[.agg (pL e).toArray] w0 fun x w' => x = .returned (.bool (e.all fun n => decide (n < 4503599627370496))) ∧ w0.grownBy w' none := by
  have b1 := Blk.new w0 (pL e) 26
  have g1 := gb_alloc (gb_refl w0 none) (.cells (pL e).toArray 26)
  go_enter Tryz.func29, Tryz.ntmps29
  go_upto_region 1 with (fail)
  revert g1; revert b1
  generalize w0.alloc (.cells (pL e).toArray 26) = w1
  intro b1 g1
  have H1 := Lib.hid (And.intro g1 b1); clear g1 b1
  have HE := Lib.hid (And.intro le he); clear le he
  go_wp2
  go_loop [3] (fun i => ∃ k : Nat, k ≤ 5 ∧ i = .int .i64 k ∧ (e.take k).all (fun n => decide (n < 4503599627370496)) = true) (fun i => 5 - (intOf i).toNat)
  case atStart => exact ⟨0, by omega, rfl, rfl⟩
  case round =>
    obtain ⟨k, hk, rfl, hall⟩ := hrel
    by_cases hlt : k < 5
    · have i0 : (k : Int) < 5 := by omega
      have hke : k < e.length := by have := HE.out.1; omega
      have c0 := H1.out.2.cell (pL_get e k hke)
      have v0 := HE.out.2 k
      have hn : (e.take (k + 1)).all (fun n => decide (n < 4503599627370496)) = decide (e.getD k 0 < 4503599627370496) := by
        rw [List.take_succ_eq_append_getElem hke, List.all_append, hall, List.getD_eq_getElem?_getD, List.getElem?_eq_getElem hke]
        simp
      have hf : e.getD k 0 < 4503599627370496 ∨ e.all (fun n => decide (n < 4503599627370496)) = false := by
        rcases Nat.lt_or_ge (e.getD k 0) 4503599627370496 with h | h
        · exact Or.inl h
        · right
          rw [Bool.eq_false_iff]
          intro hh
          have := (List.all_eq_true.1 hh) e[k] (List.getElem_mem hke)
          rw [List.getD_eq_getElem?_getD, List.getElem?_eq_getElem hke] at h
          simp at this h
          omega
      generalize e.getD k 0 = x at *
      have HN := Lib.hid (And.intro hn hf); clear hn hf hall hke
      by_cases hsm : x < 4503599627370496
      · have hq : (x : Int) / 4503599627370496 = 0 := by omega
        go_wp2
        go_round
        case rel => exact ⟨k + 1, by omega, by go_num, by rw [HN.out.1]; exact decide_eq_true hsm⟩
        case measure => simp [intOf]; omega
      · have hq : (x : Int) / 4503599627370496 ≠ 0 := by omega
        have HF := Lib.hid (HN.out.2.resolve_left hsm)
        go_wp2
        go_ret
        exact ⟨by rw [HF.out]; rfl, H1.out.1⟩
    · obtain rfl : k = 5 := by omega
      have HF : Hid (e.all (fun n => decide (n < 4503599627370496)) = true) := Lib.hid (by rw [← hall, List.take_of_length_le (Nat.le_of_eq HE.out.1)])
      clear hall
      go_wp2
      go_ret
      exact ⟨by rw [HF.out]; rfl, H1.out.1⟩
/-- a number's bytes -/
def byL : List Nat → List Nat
  | [] => []
  | d :: r => d % 256 :: d / 256 % 256 :: byL r
theorem byL_append (a b : List Nat) : byL (a ++ b) = byL a ++ byL b := by
  induction a with
  | nil => rfl
  | cons d r ih => simp [byL, ih]
theorem byL_len (a : List Nat) : (byL a).length = 2 * a.length := by
  induction a with
  | nil => rfl
  | cons d r ih => simp [byL, ih]; omega
theorem byL_next (a : List Nat) (k : Nat) (h : k < a.length) : byL (a.take (k + 1)) = byL (a.take k) ++ [a.getD k 0 % 256, a.getD k 0 / 256 % 256] := by
  rw [List.take_succ_eq_append_getElem h, byL_append, List.getD_eq_getElem?_getD, List.getElem?_eq_getElem h]
  rfl
def two (L : List Value) : Fg.It := ⟨fun v w => ∃ N, v = .slice (some ⟨N, 0, none⟩) 2 2 ∧ Blk w N 5 L, fun _ _ _ ⟨N, e, h⟩ hg => ⟨N, e, h.grown hg (by simp)⟩⟩
set_option maxRecDepth 100000 in
set_option maxHeartbeats 2000000 in
theorem bytes_any (a : List Nat) (w0 : World) (ha : Whole a) (la : a.length = 16) : Calls Tryz.prog 31 #[nV a] w0 fun x w' => ∃ g c, x = .returned (.slice (some ⟨g, 0, none⟩) 32 c) ∧ w0.grownBy w' none ∧ w'.ownsRow w0.heap.size 5 1 (.slice (some ⟨g, 0, none⟩) 32 c) 32 ((byL a).map u8N) := by
  have b1 := new (w := w0) rfl a
  have g1 := gb_alloc (gb_refl w0 none) (.cells (pL a).toArray 31)
  unfold nV
  go_enter Tryz.func31, Tryz.ntmps31
  go_upto_region 1 with (fail)
  revert g1; revert b1
  generalize w0.alloc (.cells (pL a).toArray 31) = w1
  intro b1 g1
  have H1 := Lib.hid (And.intro g1 b1); clear g1
  have z1 := b1.lt
  clear b1
  have HA := Lib.hid (And.intro ha la); clear ha la
  go_wp2
  go_loopw [3, 4] (fun v i wr => ∃ k : Nat, k ≤ 16 ∧ i = .int .i64 k ∧ w0.grownBy wr none ∧ Blk wr w0.heap.size 31 (pL a) ∧ wr.ownsRow (w0.heap.size + 1) 5 1 v (2 * k) ((byL (a.take k)).map u8N)) (fun _ i _ => 16 - (intOf i).toNat)
  case atStart => exact ⟨0, by omega, rfl, H1.out.1, H1.out.2, World.ownsRow_nil _ _ _ _⟩
  case round =>
    obtain ⟨k, hk, rfl, hg, hb, ho⟩ := hrel
    by_cases hlt : k < 16
    · have i0 : (k : Int) < 16 := by omega
      have hka : k < a.length := by have := HA.out.2; omega
      have c0 := cell hb k hka
      have v0 := of_whole HA.out.1 k
      have hn := byL_next a k hka
      generalize a.getD k 0 = x at *
      obtain ⟨ra, rc, hv⟩ : ∃ ra rc, u3 = .slice ra (2 * k) rc := by
        rcases ho.2 with ⟨h, h0⟩ | ⟨g, c, _, h, _⟩
        · exact ⟨none, 0, by rw [h, show 2 * k = 0 from h0]⟩
        · exact ⟨_, c, h⟩
      subst hv
      have HI := Lib.hid (And.intro hg (And.intro hb (And.intro ho (And.intro hn c0)))); clear hg hb ho hn c0 hka
      have HX := Lib.hid v0
      go_upto_region 5 with (fail)
      refine Fg.region_t [] [.any, .any, .any, .any, .any, .any, .any, .any, .any, .val (Value.slice ra (2 * k) rc), .val (Value.int .i64 (k : Int)), .val (Value.pointer (some ⟨w0.heap.size, k, none⟩)), .val (Value.int .u64 (x : Int)), .val (Value.int .u8 ((x : Int) % 256)), .val (Value.int .i64 (k : Int)), .val (Value.pointer (some ⟨w0.heap.size, k, none⟩)), .val (Value.int .u64 (x : Int)), .val (Value.int .u64 ((x : Int) / 256)), .val (Value.int .u8 ((x : Int) / 256 % 256)), two [.int .u8 ((x : Int) % 256), .int .u8 ((x : Int) / 256 % 256)]] wr 11 (gb_refl _ _) (by kernel_rfl) (by kernel_rfl) (by kernel_rfl) (by kernel_rfl) (by decide) (by kernel_rfl) ?_ ?_
      · refine ⟨Fg.vT rfl (by decide) fun ac w h => ?_, ?_⟩
        · have e3 : ac.tmps.getD 3 undef = Value.slice ra (2 * k) rc := h.rest 3 (by kernel_rfl)
          exact ⟨_, w, wants_none rfl, Fg.run_move rfl e3, gb_refl _ _, rfl⟩
        refine ⟨Fg.vT rfl (by decide) fun ac w h => ?_, ?_⟩
        · have e4 : ac.tmps.getD 4 undef = Value.int .i64 (k : Int) := h.rest 4 (by kernel_rfl)
          exact ⟨_, w, wants_none rfl, Fg.run_move rfl e4, gb_refl _ _, rfl⟩
        refine ⟨Fg.vT rfl (by decide) fun ac w h => ?_, ?_⟩
        · have e1 : ac.tmps.getD 1 undef = Value.pointer (some ⟨w0.heap.size, 0, none⟩) := h.rest 1 (by kernel_rfl)
          have e10 : ac.tmps.getD 10 undef = Value.int .i64 (k : Int) := h.dep 10 (by kernel_rfl)
          have i1 : (k : Int) < 16 := i0
          refine ⟨.pointer (some ⟨w0.heap.size, k, none⟩), w, wants_none rfl, ?_, gb_refl _ _, rfl⟩
          clear h
          simp only [execOp, Act.eval, e1, e10]
          go_simp
        refine ⟨Fg.vT rfl (by decide) fun ac w h => ?_, ?_⟩
        · have e11 : ac.tmps.getD 11 undef = Value.pointer (some ⟨w0.heap.size, k, none⟩) := h.dep 11 (by kernel_rfl)
          have y0 : w.cell? ⟨w0.heap.size, k, none⟩ = some (.int .u64 (x : Int)) := by rw [gb_cell h.base (block_lt_of_cell (HI.out.2.2.2.2)) (by simp)]; exact HI.out.2.2.2.2
          refine ⟨Value.int .u64 (x : Int), w, wants_none rfl, ?_, gb_refl _ _, rfl⟩
          clear h
          simp only [execOp, Act.eval, e11]
          go_simp
        refine ⟨Fg.vT rfl (by decide) fun ac w h => ?_, ?_⟩
        · have e12 : ac.tmps.getD 12 undef = Value.int .u64 (x : Int) := h.dep 12 (by kernel_rfl)
          refine ⟨.int .u8 ((x : Int) % 256), w, wants_none rfl, ?_, gb_refl _ _, rfl⟩
          clear h
          simp only [execOp, Act.eval, e12]
          go_simp
          exact IntKind.wrap_u8 _
        refine ⟨Fg.vT rfl (by decide) fun ac w h => ?_, ?_⟩
        · have e4 : ac.tmps.getD 4 undef = Value.int .i64 (k : Int) := h.rest 4 (by kernel_rfl)
          exact ⟨_, w, wants_none rfl, Fg.run_move rfl e4, gb_refl _ _, rfl⟩
        refine ⟨Fg.vT rfl (by decide) fun ac w h => ?_, ?_⟩
        · have e1 : ac.tmps.getD 1 undef = Value.pointer (some ⟨w0.heap.size, 0, none⟩) := h.rest 1 (by kernel_rfl)
          have e14 : ac.tmps.getD 14 undef = Value.int .i64 (k : Int) := h.dep 14 (by kernel_rfl)
          have i1 : (k : Int) < 16 := i0
          refine ⟨.pointer (some ⟨w0.heap.size, k, none⟩), w, wants_none rfl, ?_, gb_refl _ _, rfl⟩
          clear h
          simp only [execOp, Act.eval, e1, e14]
          go_simp
        refine ⟨Fg.vT rfl (by decide) fun ac w h => ?_, ?_⟩
        · have e15 : ac.tmps.getD 15 undef = Value.pointer (some ⟨w0.heap.size, k, none⟩) := h.dep 15 (by kernel_rfl)
          have y0 : w.cell? ⟨w0.heap.size, k, none⟩ = some (.int .u64 (x : Int)) := by rw [gb_cell h.base (block_lt_of_cell (HI.out.2.2.2.2)) (by simp)]; exact HI.out.2.2.2.2
          refine ⟨Value.int .u64 (x : Int), w, wants_none rfl, ?_, gb_refl _ _, rfl⟩
          clear h
          simp only [execOp, Act.eval, e15]
          go_simp
        refine ⟨Fg.vT rfl (by decide) fun ac w h => ?_, ?_⟩
        · have e16 : ac.tmps.getD 16 undef = Value.int .u64 (x : Int) := h.dep 16 (by kernel_rfl)
          refine ⟨.int .u64 ((x : Int) / 256), w, wants_none rfl, ?_, gb_refl _ _, rfl⟩
          clear h
          simp only [execOp, Act.eval, e16]
          go_simp
        refine ⟨Fg.vT rfl (by decide) fun ac w h => ?_, ?_⟩
        · have e17 : ac.tmps.getD 17 undef = Value.int .u64 ((x : Int) / 256) := h.dep 17 (by kernel_rfl)
          refine ⟨.int .u8 ((x : Int) / 256 % 256), w, wants_none rfl, ?_, gb_refl _ _, rfl⟩
          clear h
          simp only [execOp, Act.eval, e17]
          go_simp
          exact IntKind.wrap_u8 _
        refine ⟨Fg.vT rfl (by decide) fun ac w h => ?_, ?_⟩
        · have e13 : ac.tmps.getD 13 undef = Value.int .u8 ((x : Int) % 256) := h.dep 13 (by kernel_rfl)
          have e18 : ac.tmps.getD 18 undef = Value.int .u8 ((x : Int) / 256 % 256) := h.dep 18 (by kernel_rfl)
          refine ⟨.slice (some ⟨w.heap.size, 0, none⟩) 2 2, (w.alloc (.cells #[.int .u8 ((x : Int) % 256), .int .u8 ((x : Int) / 256 % 256)] 5)), wants_none rfl, ?_, gb_alloc (gb_refl _ _) _, ⟨w.heap.size, rfl, Blk.new w [.int .u8 ((x : Int) % 256), .int .u8 ((x : Int) / 256 % 256)] _⟩⟩
          clear h
          simp only [execOp, Act.eval, e13, e18, List.map_toArray, List.map_cons, List.map_nil]
          go_simp
        trivial
      · intro aq wq hB hsz hdf hrest hslots hpt
        have e9 : aq.tmps.getD 9 undef = Value.slice ra (2 * k) rc := hslots 9 (by kernel_rfl)
        obtain ⟨u10, e10⟩ : ∃ u, aq.tmps.getD 10 undef = u := ⟨_, rfl⟩
        obtain ⟨u11, e11⟩ : ∃ u, aq.tmps.getD 11 undef = u := ⟨_, rfl⟩
        obtain ⟨u12, e12⟩ : ∃ u, aq.tmps.getD 12 undef = u := ⟨_, rfl⟩
        obtain ⟨u13, e13⟩ : ∃ u, aq.tmps.getD 13 undef = u := ⟨_, rfl⟩
        obtain ⟨u14, e14⟩ : ∃ u, aq.tmps.getD 14 undef = u := ⟨_, rfl⟩
        obtain ⟨u15, e15⟩ : ∃ u, aq.tmps.getD 15 undef = u := ⟨_, rfl⟩
        obtain ⟨u16, e16⟩ : ∃ u, aq.tmps.getD 16 undef = u := ⟨_, rfl⟩
        obtain ⟨u17, e17⟩ : ∃ u, aq.tmps.getD 17 undef = u := ⟨_, rfl⟩
        obtain ⟨u18, e18⟩ : ∃ u, aq.tmps.getD 18 undef = u := ⟨_, rfl⟩
        obtain ⟨N19, e19, b19⟩ : ∃ N, aq.tmps.getD 19 undef = .slice (some ⟨N, 0, none⟩) 2 2 ∧ Blk wq N 5 [.int .u8 ((x : Int) % 256), .int .u8 ((x : Int) / 256 % 256)] := hslots 19 (by kernel_rfl)
        obtain rfl := Fg.frame_is (a := aq) (vs := [Value.agg (pL a).toArray, Value.pointer (some ⟨w0.heap.size, 0, none⟩), Value.slice none 0 0, Value.slice ra (2 * k) rc, Value.int .i64 (k : Int), Value.int .i64 (k : Int), Value.bool true, u7, u8, Value.slice ra (2 * k) rc, u10, u11, u12, u13, u14, u15, u16, u17, u18, Value.slice (some ⟨N19, 0, none⟩) 2 2, u20, undef]) hsz ⟨hrest 0 (by kernel_rfl), hrest 1 (by kernel_rfl), hrest 2 (by kernel_rfl), hrest 3 (by kernel_rfl), hrest 4 (by kernel_rfl), hrest 5 (by kernel_rfl), hrest 6 (by kernel_rfl), hrest 7 (by kernel_rfl), hrest 8 (by kernel_rfl), e9, e10, e11, e12, e13, e14, e15, e16, e17, e18, e19, hrest 20 (by kernel_rfl), hrest 21 (by kernel_rfl), trivial⟩ hdf
        clear hsz hdf hrest hslots hpt e9 e10 e11 e12 e13 e14 e15 e16 e17 e18 e19
        have ho9 := HI.out.2.2.1.kept hB (by cases (Value.slice ra (2 * k) rc).ownBlock <;> simp)
        have zq : w0.heap.size + 1 ≤ wq.heap.size := Nat.le_trans (Nat.le_trans (by have := z1; have := HI.out.2.1.lt; have := HI.out.1.size; omega) hB.size) (Nat.le_refl _)
        obtain ⟨v', w5, hap, ho5, hg5⟩ := append_u8 wq (w0.heap.size + 1) (2 * k) 2 2 _ _ [.int .u8 ((x : Int) % 256), .int .u8 ((x : Int) / 256 % 256)] ⟨N19, 0, none⟩ ho9 rfl (fun j u hu => by rw [Addr.add_lit, Nat.zero_add]; exact b19.cell hu) (fun u hu => by simp at hu; rcases hu with rfl | rfl <;> rfl) (by omega) zq
        refine wpList_append_run rfl (.tmp 9) (.tmp 19) 22 rfl rfl _ _ rfl rfl _ _ hap ?_
        refine Fg.wpl_value (v := v') (w' := w5) rfl (Fg.run_assign rfl rfl) ?_
        refine wpList_nil ?_
        simp only [Act.put, List.setIfInBounds_toArray, List.set_cons_succ, List.set_cons_zero]
        have hg9 := gb_own (gb_trans HI.out.1 hB) ho9 (Nat.le_succ _) hg5
        have hb9 := (HI.out.2.1.grown hB (by simp)).grown hg5 (fun e => by have := (ho9.lt _ e.symm).1; omega)
        have e9 : ((byL (a.take k)).map u8N ++ [.int .u8 ((x : Int) % 256), .int .u8 ((x : Int) / 256 % 256)]) = (byL (a.take (k + 1))).map u8N := by rw [HI.out.2.2.2.1, List.map_append]; rfl
        rw [e9] at ho5
        have HF := Lib.hid (And.intro hg9 (And.intro hb9 ho5)); clear hg9 hb9 ho5 ho9 hap hg5 b19 hB
        go_wp2
        exact ⟨⟨k + 1, by omega, by congr 1, HF.out.1, HF.out.2.1, by rw [show 2 * (k + 1) = 2 * k + 2 by omega]; exact HF.out.2.2⟩, by simp [intOf]; omega⟩
    · obtain rfl : k = 16 := by omega
      rw [List.take_of_length_le (Nat.le_of_eq HA.out.2)] at ho
      obtain ⟨g', c', rfl, _, _, _, _⟩ := own_some ho (by omega)
      have H5 := Lib.hid (And.intro (own_base ho (Nat.le_succ _)) hg); clear ho hg hb
      go_wp2
      go_ret
      exact ⟨g', c', rfl, H5.out.2, H5.out.1⟩
end Nr
end Go.Proofs.YtcmnecnbcohaeaaGreatDoor

/- A call that answers bytes; rows of bytes that a box holds (cut out of FlowT). -/
namespace Go.Proofs.YtcmnecnbcohaeaaGreatDoor
open Go.RowKit Ow
/-- a call that answers bytes -/
def YOut (w : World) (l : List Nat) (e : Ending) (w' : World) : Prop := ∃ a c, e = .returned (.slice a l.length c) ∧ w.grownBy w' none ∧ BytesAt w' w'.heap.size a c l
/-- rows of bytes, that a box holds -/
def rowV (p : Option Addr × Nat × List Nat) : Value := .slice p.1 p.2.2.length p.2.1
theorem rows_box {w : World} (T : TypeId) (P : List (Option Addr × Nat × List Nat)) (h : ∀ p ∈ P, ∃ B, BytesAt w B p.1 p.2.1 p.2.2) :
    RowsAt (w.alloc (.cells (P.map rowV).toArray T)) (w.heap.size + 1) (some ⟨w.heap.size, 0, none⟩) (P.map (·.2.2)) := by
  have hb := Blk.new w (P.map rowV) T
  have hg := gb_alloc (gb_refl w none) (.cells (P.map rowV).toArray T)
  refine ⟨by simp, Or.inr ⟨w.heap.size, 0, rfl, by omega, fun i hi => ?_⟩⟩
  rw [List.length_map] at hi
  have e : P[i]? = some P[i] := List.getElem?_eq_getElem hi
  obtain ⟨B, hB⟩ := h P[i] (List.getElem_mem hi)
  have e2 : (P.map (·.2.2)).getD i [] = P[i].2.2 := by rw [List.getD_eq_getElem?_getD, List.getElem?_map, e]; rfl
  refine ⟨P[i].1, P[i].2.1, ?_, ?_⟩
  · rw [Nat.zero_add, e2]
    exact hb.cell (by rw [List.getElem?_map, e]; rfl)
  · rw [e2]
    exact (hB.stay hg).up (Nat.le_trans hB.lim (by omega)) (by simp)
theorem bytes_box {w : World} (l : List Nat) (h : ∀ i, l.getD i 0 < 256) (hl : l.length < 1000000) : BytesAt (w.alloc (.cells (l.map u8N).toArray 5)) (w.heap.size + 1) (some ⟨w.heap.size, 0, none⟩) l.length l :=
  blk_bytes (tl := []) (by rw [List.append_nil]; exact Blk.new w (l.map u8N) _) rfl (Nat.le_refl _) (by omega) h (by omega) (by simp)
end Go.Proofs.YtcmnecnbcohaeaaGreatDoor

/- Numbers modulo a prime: Euclid's lemma, Fermat's theorem, and certificates of primes. No program is named here. -/
namespace Go.Proofs.YtcmnecnbcohaeaaGreatDoor.Num

def Prime (p : Nat) : Prop := 2 ≤ p ∧ ∀ m, m ∣ p → m = 1 ∨ m = p

theorem Prime.coprime {p a : Nat} (h : Prime p) (ha : ¬ p ∣ a) : Nat.Coprime p a := by
  rcases h.2 (Nat.gcd p a) (Nat.gcd_dvd_left p a) with e | e
  · exact e
  · exact absurd (e ▸ Nat.gcd_dvd_right p a) ha
theorem Prime.dvd_mul {p a b : Nat} (h : Prime p) (hd : p ∣ a * b) : p ∣ a ∨ p ∣ b := by
  by_cases ha : p ∣ a
  · exact Or.inl ha
  · exact Or.inr ((h.coprime ha).dvd_of_dvd_mul_left hd)

theorem exists_prime : ∀ n : Nat, 2 ≤ n → ∃ r, Prime r ∧ r ∣ n := by
  intro n
  induction n using Nat.strongRecOn with
  | _ n ih =>
    intro h2
    by_cases hp : Prime n
    · exact ⟨n, hp, Nat.dvd_refl n⟩
    · have : ∃ m, m ∣ n ∧ m ≠ 1 ∧ m ≠ n := by
        by_cases hm : ∃ m, m ∣ n ∧ m ≠ 1 ∧ m ≠ n
        · exact hm
        · refine absurd ⟨h2, fun m hd => ?_⟩ hp
          by_cases e1 : m = 1
          · exact Or.inl e1
          · by_cases e2 : m = n
            · exact Or.inr e2
            · exact absurd ⟨m, hd, e1, e2⟩ hm
      obtain ⟨m, hd, h1, hn⟩ := this
      have hle := Nat.le_of_dvd (by omega) hd
      have h0 : m ≠ 0 := by rintro rfl; have := Nat.eq_zero_of_zero_dvd hd; omega
      obtain ⟨r, hr, hrd⟩ := ih m (by omega) (by omega)
      exact ⟨r, hr, Nat.dvd_trans hrd hd⟩

/-- one that is no prime has a prime part that is not above its root -/
theorem small_part {n : Nat} (h2 : 2 ≤ n) (hp : ¬ Prime n) : ∃ r, Prime r ∧ r ∣ n ∧ r * r ≤ n := by
  have : ∃ m, m ∣ n ∧ m ≠ 1 ∧ m ≠ n := by
    by_cases hm : ∃ m, m ∣ n ∧ m ≠ 1 ∧ m ≠ n
    · exact hm
    · refine absurd ⟨h2, fun m hd => ?_⟩ hp
      by_cases e1 : m = 1
      · exact Or.inl e1
      · by_cases e2 : m = n
        · exact Or.inr e2
        · exact absurd ⟨m, hd, e1, e2⟩ hm
  obtain ⟨m, ⟨k, hk⟩, h1, hn⟩ := this
  have hm0 : m ≠ 0 := by rintro rfl; omega
  have hk0 : k ≠ 0 := by rintro rfl; omega
  have hk1 : k ≠ 1 := by rintro rfl; omega
  have go : ∀ x y : Nat, n = x * y → 2 ≤ x → x ≤ y → ∃ r, Prime r ∧ r ∣ n ∧ r * r ≤ n := by
    intro x y e hx hxy
    obtain ⟨r, hr, hd⟩ := exists_prime x hx
    have hrx := Nat.le_of_dvd (by omega) hd
    exact ⟨r, hr, e ▸ Nat.dvd_trans hd (Nat.dvd_mul_right x y), e ▸ Nat.mul_le_mul hrx (Nat.le_trans hrx hxy)⟩
  rcases Nat.le_total m k with h | h
  · exact go m k hk (by omega) h
  · exact go k m (by rw [hk, Nat.mul_comm]) (by omega) h

/-! ### Fermat -/
def prod (l : List Nat) : Nat := l.foldr (· * ·) 1
theorem prod_cons (x : Nat) (l : List Nat) : prod (x :: l) = x * prod l := rfl
theorem prod_perm {l l' : List Nat} (h : l.Perm l') : prod l = prod l' := by
  induction h with
  | nil => rfl
  | cons x _ ih => rw [prod_cons, prod_cons, ih]
  | swap x y l => simp only [prod_cons]; rw [Nat.mul_left_comm]
  | trans _ _ h1 h2 => exact h1.trans h2
theorem perm_of {l l' : List Nat} (hn : l.Nodup) (hs : ∀ x ∈ l, x ∈ l') (hl : l.length = l'.length) : l.Perm l' := by
  induction l generalizing l' with
  | nil => rw [List.eq_nil_of_length_eq_zero hl.symm]
  | cons x t ih =>
    have hx := hs x (List.mem_cons_self ..)
    have hn' := List.nodup_cons.1 hn
    have hp := List.perm_cons_erase hx
    refine List.Perm.trans (List.Perm.cons x (ih hn'.2 (fun y hy => ?_) ?_)) hp.symm
    · have hne : y ≠ x := fun e => hn'.1 (e ▸ hy)
      exact (List.mem_erase_of_ne hne).2 (hs y (List.mem_cons_of_mem _ hy))
    · have := hp.length_eq
      simp only [List.length_cons] at this hl
      omega
theorem prod_map (p a : Nat) (l : List Nat) : prod (l.map fun i => a * i % p) % p = a ^ l.length * prod l % p := by
  induction l with
  | nil => simp [prod]
  | cons x t ih =>
    rw [List.map_cons, prod_cons, Nat.mul_mod, ih, Nat.mod_mod, ← Nat.mul_mod, prod_cons, List.length_cons, Nat.pow_succ]
    congr 1
    simp only [Nat.mul_assoc, Nat.mul_left_comm, Nat.mul_comm]
theorem not_dvd_prod {p : Nat} (h : Prime p) (l : List Nat) (hl : ∀ x ∈ l, ¬ p ∣ x) : ¬ p ∣ prod l := by
  induction l with
  | nil => intro hd; have := Nat.le_of_dvd (by decide) hd; have := h.1; simp [prod] at *; omega
  | cons x t ih =>
    intro hd
    rcases h.dvd_mul hd with e | e
    · exact hl x (List.mem_cons_self ..) e
    · exact ih (fun y hy => hl y (List.mem_cons_of_mem _ hy)) e
theorem cancel {p x y P : Nat} (h : Prime p) (hP : ¬ p ∣ P) (_ : y ≤ x) (e : x * P % p = y * P % p) : p ∣ x - y := by
  have h1 := Nat.sub_mod_eq_zero_of_mod_eq e
  rw [← Nat.sub_mul] at h1
  rcases h.dvd_mul (Nat.dvd_of_mod_eq_zero h1) with k | k
  · exact k
  · exact absurd k hP
theorem mod_one {p x : Nat} (hx : 1 ≤ x) (h : p ∣ x - 1) : x % p = 1 % p := by
  obtain ⟨k, hk⟩ := h
  have : x = 1 + p * k := by omega
  rw [this, Nat.add_mul_mod_self_left]
theorem fermat {p a : Nat} (h : Prime p) (ha : ¬ p ∣ a) : a ^ (p - 1) % p = 1 := by
  have h2 := h.1
  have hz : 1 ≤ a := by
    rcases Nat.eq_zero_or_pos a with e | e
    · exact absurd (e ▸ Nat.dvd_zero p) ha
    · exact e
  have mem : ∀ x, x ∈ List.range' 1 (p - 1) ↔ 1 ≤ x ∧ x < p := by
    intro x; rw [List.mem_range'_1]; omega
  have low : ∀ x ∈ List.range' 1 (p - 1), ¬ p ∣ x := fun x hx hd => by
    have := (mem x).1 hx; have := Nat.le_of_dvd (by omega) hd; omega
  have perm : ((List.range' 1 (p - 1)).map fun i => a * i % p).Perm (List.range' 1 (p - 1)) := by
    apply perm_of
    · rw [List.nodup_iff_pairwise_ne, List.pairwise_map]
      refine List.Pairwise.imp_of_mem ?_ (List.nodup_iff_pairwise_ne.1 (List.nodup_range' ..))
      intro x y hx hy hne e
      have bx := (mem x).1 hx
      have b_y := (mem y).1 hy
      apply hne
      rw [Nat.mul_comm a x, Nat.mul_comm a y] at e
      rcases Nat.le_total x y with l | l
      · obtain ⟨k, hk⟩ := cancel h ha l e.symm
        rcases Nat.eq_zero_or_pos k with z | z
        · subst z; omega
        · have := Nat.le_mul_of_pos_right p z; omega
      · obtain ⟨k, hk⟩ := cancel h ha l e
        rcases Nat.eq_zero_or_pos k with z | z
        · subst z; omega
        · have := Nat.le_mul_of_pos_right p z; omega
    · intro x hx
      obtain ⟨i, hi, rfl⟩ := List.mem_map.1 hx
      rw [mem]
      refine ⟨?_, Nat.mod_lt _ (by omega)⟩
      rcases Nat.eq_zero_or_pos (a * i % p) with z | z
      · rcases h.dvd_mul (Nat.dvd_of_mod_eq_zero z) with k | k
        · exact absurd k ha
        · exact absurd k (low i hi)
      · exact z
    · simp
  have e := prod_map p a (List.range' 1 (p - 1))
  rw [prod_perm perm, List.length_range'] at e
  have hd := cancel (x := a ^ (p - 1)) (y := 1) h (not_dvd_prod h _ low) (Nat.one_le_pow _ _ hz) (by rw [Nat.one_mul]; exact e.symm)
  rw [mod_one (Nat.one_le_pow _ _ hz) hd, Nat.mod_eq_of_lt h2]

/-! ### certificates -/
theorem pow_one_mul {r b x : Nat} (k : Nat) (h : b ^ x % r = 1 % r) : b ^ (x * k) % r = 1 % r := by
  rw [Nat.pow_mul, Nat.pow_mod, h, ← Nat.pow_mod, Nat.one_pow]
theorem pow_gcd (r b x y : Nat) (hx : b ^ x % r = 1 % r) (hy : b ^ y % r = 1 % r) : b ^ Nat.gcd x y % r = 1 % r := by
  induction x, y using Nat.gcd.induction with
  | H0 y => rwa [Nat.gcd_zero_left]
  | H1 x y _ ih =>
    rw [Nat.gcd_rec]
    refine ih ?_ hx
    have e : b ^ y = b ^ (x * (y / x)) * b ^ (y % x) := by rw [← Nat.pow_add, Nat.div_add_mod]
    rw [e, Nat.mul_mod, pow_one_mul _ hx, ← Nat.mul_mod, Nat.one_mul] at hy
    exact hy

/-- q goes into what is one below each prime part of N -/
theorem step {N q m a : Nat} (hq : Prime q) (hN : N - 1 = m * q) (h2 : 2 ≤ N) (h1 : a ^ (N - 1) % N = 1) (hg : Nat.gcd (a ^ m % N + (N - 1)) N = 1) :
    ∀ r, Prime r → r ∣ N → q ∣ r - 1 := by
  intro r hr hd
  have hr2 := hr.1
  by_cases hn : q ∣ r - 1
  · exact hn
  have hc : Nat.gcd q (r - 1) = 1 := hq.coprime hn
  have hb : (a ^ m) ^ q % r = 1 % r := by
    rw [← Nat.pow_mul, ← hN, ← Nat.mod_mod_of_dvd _ hd, h1]
  have ha : ¬ r ∣ a ^ m := by
    intro k
    have hq0 : q ≠ 0 := by have := hq.1; omega
    have := Nat.mod_eq_zero_of_dvd (Nat.dvd_trans k ⟨(a ^ m) ^ (q - 1), by rw [← Nat.pow_succ', show (q - 1).succ = q by omega]⟩)
    rw [hb, Nat.mod_eq_of_lt hr2] at this
    omega
  have hf := fermat hr ha
  have h3 := pow_gcd r (a ^ m) q (r - 1) hb (by rw [hf, Nat.mod_eq_of_lt hr2])
  rw [hc, Nat.pow_one] at h3
  have h4 : r ∣ Nat.gcd (a ^ m % N + (N - 1)) N := by
    refine Nat.dvd_gcd (Nat.dvd_of_mod_eq_zero ?_) hd
    rw [Nat.add_mod, Nat.mod_mod_of_dvd _ hd, h3, ← Nat.add_mod, Nat.add_sub_cancel' (by omega : 1 ≤ N)]
    exact Nat.mod_eq_zero_of_dvd hd
  rw [hg] at h4
  have := Nat.le_of_dvd (by decide) h4
  omega
theorem prime_of {N F : Nat} (h2 : 2 ≤ N) (hF : N < F * F) (h : ∀ r, Prime r → r ∣ N → F ∣ r - 1) : Prime N := by
  by_cases hp : Prime N
  · exact hp
  obtain ⟨r, hr, hd, hle⟩ := small_part h2 hp
  have hr2 := hr.1
  have := Nat.le_of_dvd (by omega) (h r hr hd)
  have : F * F ≤ r * r := Nat.mul_le_mul (by omega) (by omega)
  omega
theorem both {x q q' : Nat} (hq : Prime q) (hn : ¬ q ∣ q') (h : q ∣ x) (h' : q' ∣ x) : q * q' ∣ x :=
  Nat.Coprime.mul_dvd_of_dvd_of_dvd (hq.coprime hn) h h'
/-- no part from d on, tried one by one -/
def trial (n : Nat) : Nat → Nat → Bool
  | 0, _ => true
  | f + 1, d => n % d != 0 && trial n f (d + 1)
theorem trial_says {n : Nat} : ∀ f d, trial n f d = true → ∀ m, d ≤ m → m < d + f → n % m ≠ 0 := by
  intro f
  induction f with
  | zero => intro d _ m h1 h2; omega
  | succ f ih =>
    intro d h m h1 h2
    simp only [trial, Bool.and_eq_true, bne_iff_ne] at h
    by_cases e : m = d
    · subst e; exact h.1
    · exact ih (d + 1) h.2 m (by omega) (by omega)
theorem prime_trial {n : Nat} (f : Nat) (h2 : 2 ≤ n) (hf : n < (f + 2) * (f + 2)) (h : trial n f 2 = true) : Prime n := by
  by_cases hp : Prime n
  · exact hp
  obtain ⟨r, hr, hd, hle⟩ := small_part h2 hp
  have hr2 := hr.1
  by_cases hlt : r < 2 + f
  · exact absurd (Nat.mod_eq_zero_of_dvd hd) (trial_says f 2 h r hr2 hlt)
  · have : (f + 2) * (f + 2) ≤ r * r := Nat.mul_le_mul (by omega) (by omega)
    omega

/-- a power, modulo n, squared and multiplied bit by bit -/
def pm (n a : Nat) : Nat → Nat → Nat
  | 0, _ => 1 % n
  | f + 1, e => if e % 2 = 0 then pm n a f (e / 2) * pm n a f (e / 2) % n else pm n a f (e / 2) * pm n a f (e / 2) % n * a % n
theorem pm_is (n a : Nat) : ∀ f e, e < 2 ^ f → pm n a f e = a ^ e % n := by
  intro f
  induction f with
  | zero => 
    intro e h
    have : e = 0 := by simpa using h
    subst this
    simp [pm]
  | succ f ih =>
    intro e h
    have h' : e / 2 < 2 ^ f := by rw [Nat.pow_succ] at h; omega
    have sq : pm n a f (e / 2) * pm n a f (e / 2) % n = a ^ (e / 2 + e / 2) % n := by
      rw [ih _ h', ← Nat.mul_mod, ← Nat.pow_add]
    rw [pm, sq]
    by_cases h2 : e % 2 = 0
    · rw [if_pos h2, show e / 2 + e / 2 = e by omega]
    · rw [if_neg h2, Nat.mod_mul_mod, ← Nat.pow_succ, show (e / 2 + e / 2).succ = e by omega]

theorem pow_is {n a e v : Nat} (f : Nat) (he : e < 2 ^ f) (h : pm n a f e = v) : a ^ e % n = v := by rw [← pm_is n a f e he]; exact h
/-- a certificate's step, reckoned -/
theorem step' {N q : Nat} (m a f b : Nat) (hq : Prime q) (hN : N - 1 = m * q) (h2 : 2 ≤ N) (hf : N < 2 ^ f) (h1 : pm N a f (N - 1) = 1) (hb : pm N a f m = b) (hg : Nat.gcd (b + (N - 1)) N = 1) :
    ∀ r, Prime r → r ∣ N → q ∣ r - 1 := by
  have hm : m < 2 ^ f := by
    have h1 := hq.1
    have : m * 1 ≤ m * q := Nat.mul_le_mul_left m (by omega)
    omega
  refine step (a := a) hq hN h2 (pow_is f (by omega) h1) ?_
  rw [pow_is f hm hb]; exact hg
end Go.Proofs.YtcmnecnbcohaeaaGreatDoor.Num

/- 2^255 - 19 is a prime. -/
namespace Go.Proofs.YtcmnecnbcohaeaaGreatDoor.Num
theorem q11_prime : Prime 127 := prime_trial 11 (by decide) (by decide) (by decide +kernel)
theorem q8_prime : Prime 4153 := prime_trial 64 (by decide) (by decide) (by decide +kernel)
theorem q7_prime : Prime 430751 := prime_trial 656 (by decide) (by decide) (by decide +kernel)
theorem q6_prime : Prime 8574133 := prime_trial 2928 (by decide) (by decide) (by decide +kernel)
theorem q10_prime : Prime 569003 := prime_trial 754 (by decide) (by decide) (by decide +kernel)
theorem q9_prime : Prime 2773320623 := prime_of (F := 569003) (by decide) (by decide +kernel) fun r hr hd => (step' 4874 2 32 2039232613 q10_prime (by decide +kernel) (by decide) (by decide +kernel) (by decide +kernel) (by decide +kernel) (by decide +kernel) r hr hd)
theorem q5_prime : Prime 72106336199 := prime_of (F := 2773320623) (by decide) (by decide +kernel) fun r hr hd => (step' 26 2 37 67108864 q9_prime (by decide +kernel) (by decide) (by decide +kernel) (by decide +kernel) (by decide +kernel) (by decide +kernel) r hr hd)
theorem q4_prime : Prime 1919519569386763 := prime_of (F := 8574133 * 127) (by decide) (by decide +kernel) fun r hr hd => both q6_prime (by decide +kernel) (step' 223873314 2 51 1059928654987441 q6_prime (by decide +kernel) (by decide) (by decide +kernel) (by decide +kernel) (by decide +kernel) (by decide +kernel) r hr hd) (step' 15114327318006 2 51 576774792492622 q11_prime (by decide +kernel) (by decide) (by decide +kernel) (by decide +kernel) (by decide +kernel) (by decide +kernel) r hr hd)
theorem q3_prime : Prime 31757755568855353 := prime_of (F := 430751 * 4153) (by decide) (by decide +kernel) fun r hr hd => both q7_prime (by decide +kernel) (step' 73726481352 2 55 15280470251845350 q7_prime (by decide +kernel) (by decide) (by decide +kernel) (by decide +kernel) (by decide +kernel) (by decide +kernel) r hr hd) (step' 7646943310584 2 55 28256283979054930 q8_prime (by decide +kernel) (by decide) (by decide +kernel) (by decide +kernel) (by decide +kernel) (by decide +kernel) r hr hd)
theorem q2_prime : Prime 75445702479781427272750846543864801 := prime_of (F := 1919519569386763 * 72106336199) (by decide) (by decide +kernel) fun r hr hd => both q4_prime (by decide +kernel) (step' 39304471641247389600 2 116 56747016255153332959347766392083459 q4_prime (by decide +kernel) (by decide) (by decide +kernel) (by decide +kernel) (by decide +kernel) (by decide +kernel) r hr hd) (step' 1046311689884858398375200 2 116 71619851993489548214160924360205394 q5_prime (by decide +kernel) (by decide) (by decide +kernel) (by decide +kernel) (by decide +kernel) (by decide +kernel) r hr hd)
theorem q1_prime : Prime 74058212732561358302231226437062788676166966415465897661863160754340907 := prime_of (F := 75445702479781427272750846543864801 * 31757755568855353) (by decide) (by decide +kernel) fun r hr hd => both q2_prime (by decide +kernel) (step' 981609426360740691344999861639072106 2 236 69490809710348678725736597923071784769591275419387514694139338586948360 q2_prime (by decide +kernel) (by decide) (by decide +kernel) (by decide +kernel) (by decide +kernel) (by decide +kernel) r hr hd) (step' 2331972502653487852620185443007392165117953542933313402 2 236 50366660687963342066214195241331738400016478712605795091965648721912165 q3_prime (by decide +kernel) (by decide) (by decide +kernel) (by decide +kernel) (by decide +kernel) (by decide +kernel) r hr hd)
theorem p_prime : Prime 57896044618658097711785492504343953926634992332820282019728792003956564819949 := prime_of (F := 74058212732561358302231226437062788676166966415465897661863160754340907) (by decide) (by decide +kernel) fun r hr hd => (step' 781764 2 255 427094198651976259540344842774561673889945192655078505504941250475370961481 q1_prime (by decide +kernel) (by decide) (by decide +kernel) (by decide +kernel) (by decide +kernel) (by decide +kernel) r hr hd)
end Go.Proofs.YtcmnecnbcohaeaaGreatDoor.Num

/- field: elements of five limbs, and what the program reckons with them, as plain functions on integers. No program is named here. -/
namespace Go.Proofs.YtcmnecnbcohaeaaGreatDoor

/-- an element: five limbs -/
structure Fe where
  x0 : Int
  x1 : Int
  x2 : Int
  x3 : Int
  x4 : Int
deriving DecidableEq
namespace Fe
/-- each limb is a number of 64 bits -/
structure Ok (a : Fe) : Prop where
  n0 : 0 ≤ a.x0
  n1 : 0 ≤ a.x1
  n2 : 0 ≤ a.x2
  n3 : 0 ≤ a.x3
  n4 : 0 ≤ a.x4
  l0 : a.x0 < 18446744073709551616
  l1 : a.x1 < 18446744073709551616
  l2 : a.x2 < 18446744073709551616
  l3 : a.x3 < 18446744073709551616
  l4 : a.x4 < 18446744073709551616
/-- each limb is below 2^52 -/
structure Right (a : Fe) : Prop where
  n0 : 0 ≤ a.x0
  n1 : 0 ≤ a.x1
  n2 : 0 ≤ a.x2
  n3 : 0 ≤ a.x3
  n4 : 0 ≤ a.x4
  l0 : a.x0 < 4503599627370496
  l1 : a.x1 < 4503599627370496
  l2 : a.x2 < 4503599627370496
  l3 : a.x3 < 4503599627370496
  l4 : a.x4 < 4503599627370496
theorem Right.ok {a : Fe} (h : Right a) : Ok a := by
  obtain ⟨n0, n1, n2, n3, n4, l0, l1, l2, l3, l4⟩ := h
  constructor <;> omega
/-- what it stands for, not reduced -/
def V (a : Fe) : Int := a.x0 + 2251799813685248 * a.x1 + 5070602400912917605986812821504 * a.x2 + 11417981541647679048466287755595961091061972992 * a.x3 + 25711008708143844408671393477458601640355247900524685364822016 * a.x4
/-- 2^255 - 19 -/
def P : Nat := 57896044618658097711785492504343953926634992332820282019728792003956564819949
/-- the number that it stands for -/
def m (a : Fe) : Nat := (a.V % (P : Int)).toNat

def carryF (a : Fe) : Fe :=
  ⟨a.x0 % 2251799813685248 + 19 * (a.x4 / 2251799813685248), a.x1 % 2251799813685248 + a.x0 / 2251799813685248, a.x2 % 2251799813685248 + a.x1 / 2251799813685248,
    a.x3 % 2251799813685248 + a.x2 / 2251799813685248, a.x4 % 2251799813685248 + a.x3 / 2251799813685248⟩
theorem carry_right {a : Fe} (h : Ok a) : Right (carryF a) := by
  obtain ⟨n0, n1, n2, n3, n4, l0, l1, l2, l3, l4⟩ := h
  constructor <;> simp only [carryF] <;> omega
theorem carry_V (a : Fe) : V (carryF a) = V a - (P : Int) * (a.x4 / 2251799813685248) := by
  simp only [V, carryF, P]
  omega
theorem m_of {a b : Fe} (h : ∃ k : Int, V a = V b + (P : Int) * k) : m a = m b := by
  obtain ⟨k, hk⟩ := h
  unfold m
  rw [hk, Int.add_mul_emod_self_left]
theorem carry_m (a : Fe) : m (carryF a) = m a := m_of ⟨-(a.x4 / 2251799813685248), by rw [carry_V, Int.mul_neg]; omega⟩

def w64 (x : Int) : Int := x % 18446744073709551616
def addF (a b : Fe) : Fe := carryF ⟨w64 (a.x0 + b.x0), w64 (a.x1 + b.x1), w64 (a.x2 + b.x2), w64 (a.x3 + b.x3), w64 (a.x4 + b.x4)⟩
def subF (a b : Fe) : Fe :=
  carryF ⟨w64 (a.x0 + w64 (9007199254740916 - b.x0)), w64 (a.x1 + w64 (9007199254740988 - b.x1)), w64 (a.x2 + w64 (9007199254740988 - b.x2)), w64 (a.x3 + w64 (9007199254740988 - b.x3)), w64 (a.x4 + w64 (9007199254740988 - b.x4))⟩
def zeroF : Fe := ⟨0, 0, 0, 0, 0⟩
def oneF : Fe := ⟨1, 0, 0, 0, 0⟩
def negF (a : Fe) : Fe := subF zeroF a

theorem w64_ok (x0 x1 x2 x3 x4 : Int) : Ok ⟨w64 x0, w64 x1, w64 x2, w64 x3, w64 x4⟩ := by
  constructor <;> simp only [w64] <;> omega
theorem add_right (a b : Fe) : Right (addF a b) := carry_right (w64_ok ..)
theorem sub_right (a b : Fe) : Right (subF a b) := carry_right (w64_ok ..)
theorem neg_right (a : Fe) : Right (negF a) := sub_right ..
theorem m_lt (a : Fe) : m a < P := by
  unfold m P
  omega
theorem m_cast (a : Fe) : ((m a : Nat) : Int) = V a % (P : Int) := by
  unfold m P
  omega
theorem of_cast {x y : Nat} (hx : x < P) (h : ((x : Nat) : Int) % (P : Int) = ((y : Nat) : Int) % (P : Int)) : x = y % P := by
  unfold P at *
  omega
theorem add_m {a b : Fe} (ha : Right a) (hb : Right b) : m (addF a b) = (m a + m b) % P := by
  have e : V (⟨w64 (a.x0 + b.x0), w64 (a.x1 + b.x1), w64 (a.x2 + b.x2), w64 (a.x3 + b.x3), w64 (a.x4 + b.x4)⟩ : Fe) = V a + V b := by
    obtain ⟨n0, n1, n2, n3, n4, l0, l1, l2, l3, l4⟩ := ha
    obtain ⟨k0, k1, k2, k3, k4, j0, j1, j2, j3, j4⟩ := hb
    simp only [V, w64]
    omega
  unfold addF
  rw [carry_m]
  apply of_cast (m_lt _)
  rw [m_cast, e, Int.natCast_add, m_cast, m_cast, Int.emod_emod, ← Int.add_emod]
theorem sub_m {a b : Fe} (ha : Right a) (hb : Right b) : m (subF a b) = (m a + (P - m b)) % P := by
  have e : V (⟨w64 (a.x0 + w64 (9007199254740916 - b.x0)), w64 (a.x1 + w64 (9007199254740988 - b.x1)), w64 (a.x2 + w64 (9007199254740988 - b.x2)), w64 (a.x3 + w64 (9007199254740988 - b.x3)), w64 (a.x4 + w64 (9007199254740988 - b.x4))⟩ : Fe)
      = V a - V b + (P : Int) * 4 := by
    obtain ⟨n0, n1, n2, n3, n4, l0, l1, l2, l3, l4⟩ := ha
    obtain ⟨k0, k1, k2, k3, k4, j0, j1, j2, j3, j4⟩ := hb
    simp only [V, w64, P]
    omega
  have hb := m_lt b
  have ca := m_cast a
  have cb := m_cast b
  have h := m_cast (subF a b)
  rw [show m (subF a b) = _ from carry_m _] at h ⊢
  have hl := m_lt (⟨w64 (a.x0 + w64 (9007199254740916 - b.x0)), w64 (a.x1 + w64 (9007199254740988 - b.x1)), w64 (a.x2 + w64 (9007199254740988 - b.x2)), w64 (a.x3 + w64 (9007199254740988 - b.x3)), w64 (a.x4 + w64 (9007199254740988 - b.x4))⟩ : Fe)
  have h2 := m_cast (⟨w64 (a.x0 + w64 (9007199254740916 - b.x0)), w64 (a.x1 + w64 (9007199254740988 - b.x1)), w64 (a.x2 + w64 (9007199254740988 - b.x2)), w64 (a.x3 + w64 (9007199254740988 - b.x3)), w64 (a.x4 + w64 (9007199254740988 - b.x4))⟩ : Fe)
  rw [e, Int.add_mul_emod_self_left] at h2
  generalize m (⟨w64 (a.x0 + w64 (9007199254740916 - b.x0)), w64 (a.x1 + w64 (9007199254740988 - b.x1)), w64 (a.x2 + w64 (9007199254740988 - b.x2)), w64 (a.x3 + w64 (9007199254740988 - b.x3)), w64 (a.x4 + w64 (9007199254740988 - b.x4))⟩ : Fe) = M at *
  clear h e
  generalize V a = A at *
  generalize V b = B at *
  unfold P at *
  omega

/-! ### sums of products: numbers of 128 bits -/
def addS (S a b : Int) : Int := (S + a * b) % 340282366920938463463374607431768211456
def limbS (S : Int) : Int := S % 2251799813685248
def restS (S : Int) : Int := w64 (S / 2251799813685248)
def joinF (s0 s1 s2 s3 s4 : Int) : Fe :=
  carryF ⟨w64 (limbS s0 + w64 (19 * restS s4)), w64 (limbS s1 + restS s0), w64 (limbS s2 + restS s1), w64 (limbS s3 + restS s2), w64 (limbS s4 + restS s3)⟩
def s5 (a0 b0 a1 b1 a2 b2 a3 b3 a4 b4 : Int) : Int := addS (addS (addS (addS (addS 0 a0 b0) a1 b1) a2 b2) a3 b3) a4 b4
def s3 (a0 b0 a1 b1 a2 b2 : Int) : Int := addS (addS (addS 0 a0 b0) a1 b1) a2 b2
def mulF (a b : Fe) : Fe :=
  joinF (s5 a.x0 b.x0 a.x1 (w64 (19 * b.x4)) a.x2 (w64 (19 * b.x3)) a.x3 (w64 (19 * b.x2)) a.x4 (w64 (19 * b.x1)))
    (s5 a.x0 b.x1 a.x1 b.x0 a.x2 (w64 (19 * b.x4)) a.x3 (w64 (19 * b.x3)) a.x4 (w64 (19 * b.x2)))
    (s5 a.x0 b.x2 a.x1 b.x1 a.x2 b.x0 a.x3 (w64 (19 * b.x4)) a.x4 (w64 (19 * b.x3)))
    (s5 a.x0 b.x3 a.x1 b.x2 a.x2 b.x1 a.x3 b.x0 a.x4 (w64 (19 * b.x4)))
    (s5 a.x0 b.x4 a.x1 b.x3 a.x2 b.x2 a.x3 b.x1 a.x4 b.x0)
def sqF (a : Fe) : Fe :=
  joinF (s3 a.x0 a.x0 (w64 (2 * a.x1)) (w64 (19 * a.x4)) (w64 (2 * a.x2)) (w64 (19 * a.x3)))
    (s3 (w64 (2 * a.x0)) a.x1 (w64 (2 * a.x2)) (w64 (19 * a.x4)) a.x3 (w64 (19 * a.x3)))
    (s3 (w64 (2 * a.x0)) a.x2 a.x1 a.x1 (w64 (2 * a.x3)) (w64 (19 * a.x4)))
    (s3 (w64 (2 * a.x0)) a.x3 (w64 (2 * a.x1)) a.x2 a.x4 (w64 (19 * a.x4)))
    (s3 (w64 (2 * a.x0)) a.x4 (w64 (2 * a.x1)) a.x3 a.x2 a.x2)
theorem join_right (s0 s1 s2 s3 s4 : Int) : Right (joinF s0 s1 s2 s3 s4) := carry_right (w64_ok ..)
theorem mul_right (a b : Fe) : Right (mulF a b) := join_right ..
theorem sq_right (a : Fe) : Right (sqF a) := join_right ..
theorem join_V {s0 s1 s2 s3 s4 : Int} (h0 : 0 ≤ s0) (h1 : 0 ≤ s1) (h2 : 0 ≤ s2) (h3 : 0 ≤ s3) (h4 : 0 ≤ s4)
    (l0 : s0 < 2596148429267413814265248164610048) (l1 : s1 < 2596148429267413814265248164610048) (l2 : s2 < 2596148429267413814265248164610048) (l3 : s3 < 2596148429267413814265248164610048) (l4 : s4 < 162259276829213363391578010288128) :
    ∃ k : Int, V (joinF s0 s1 s2 s3 s4) = V ⟨s0, s1, s2, s3, s4⟩ + (P : Int) * k := by
  have e : V (⟨w64 (limbS s0 + w64 (19 * restS s4)), w64 (limbS s1 + restS s0), w64 (limbS s2 + restS s1), w64 (limbS s3 + restS s2), w64 (limbS s4 + restS s3)⟩ : Fe) = V ⟨s0, s1, s2, s3, s4⟩ - (P : Int) * (s4 / 2251799813685248) := by
    simp only [V, w64, limbS, restS, P]
    omega
  unfold joinF
  rw [carry_V, e]
  exact ⟨-(s4 / 2251799813685248) - w64 (limbS s4 + restS s3) / 2251799813685248, by simp only [Int.mul_sub, Int.mul_neg]; omega⟩
theorem prod_bd {x y : Int} (h0 : 0 ≤ x) (h1 : x < 4503599627370496) (k0 : 0 ≤ y) (k1 : y < 4503599627370496) : 0 ≤ x * y ∧ x * y < 20282409603651670423947251286016 := by
  refine ⟨Int.mul_nonneg h0 k0, ?_⟩
  have a : x * y ≤ 4503599627370495 * y := Int.mul_le_mul_of_nonneg_right (by omega) k0
  omega
theorem w64_in {x : Int} (h0 : 0 ≤ x) (h1 : x < 18446744073709551616) : w64 x = x := by unfold w64; omega
theorem s5_is {a0 b0 a1 b1 a2 b2 a3 b3 a4 b4 : Int} (h0 : 0 ≤ a0 * b0) (h1 : 0 ≤ a1 * b1) (h2 : 0 ≤ a2 * b2) (h3 : 0 ≤ a3 * b3) (h4 : 0 ≤ a4 * b4)
    (h : a0 * b0 + a1 * b1 + a2 * b2 + a3 * b3 + a4 * b4 < 340282366920938463463374607431768211456) :
    s5 a0 b0 a1 b1 a2 b2 a3 b3 a4 b4 = a0 * b0 + a1 * b1 + a2 * b2 + a3 * b3 + a4 * b4 := by
  unfold s5 addS
  omega
theorem s3_is {a0 b0 a1 b1 a2 b2 : Int} (h0 : 0 ≤ a0 * b0) (h1 : 0 ≤ a1 * b1) (h2 : 0 ≤ a2 * b2)
    (h : a0 * b0 + a1 * b1 + a2 * b2 < 340282366920938463463374607431768211456) :
    s3 a0 b0 a1 b1 a2 b2 = a0 * b0 + a1 * b1 + a2 * b2 := by
  unfold s3 addS
  omega
theorem poly (a0 a1 a2 a3 a4 b0 b1 b2 b3 b4 : Int) :
    (a0 + 2251799813685248 * a1 + 5070602400912917605986812821504 * a2 + 11417981541647679048466287755595961091061972992 * a3 + 25711008708143844408671393477458601640355247900524685364822016 * a4) *
      (b0 + 2251799813685248 * b1 + 5070602400912917605986812821504 * b2 + 11417981541647679048466287755595961091061972992 * b3 + 25711008708143844408671393477458601640355247900524685364822016 * b4)
    = (a0 * b0 + a1 * (19 * b4) + a2 * (19 * b3) + a3 * (19 * b2) + a4 * (19 * b1)) + 2251799813685248 * (a0 * b1 + a1 * b0 + a2 * (19 * b4) + a3 * (19 * b3) + a4 * (19 * b2))
      + 5070602400912917605986812821504 * (a0 * b2 + a1 * b1 + a2 * b0 + a3 * (19 * b4) + a4 * (19 * b3)) + 11417981541647679048466287755595961091061972992 * (a0 * b3 + a1 * b2 + a2 * b1 + a3 * b0 + a4 * (19 * b4))
      + 25711008708143844408671393477458601640355247900524685364822016 * (a0 * b4 + a1 * b3 + a2 * b2 + a3 * b1 + a4 * b0)
      + 57896044618658097711785492504343953926634992332820282019728792003956564819949 * ((a1 * b4 + a2 * b3 + a3 * b2 + a4 * b1) + 2251799813685248 * (a2 * b4 + a3 * b3 + a4 * b2) + 5070602400912917605986812821504 * (a3 * b4 + a4 * b3) + 11417981541647679048466287755595961091061972992 * (a4 * b4)) := by
  grind
theorem mul_m {a b : Fe} (ha : Right a) (hb : Right b) : m (mulF a b) = m a * m b % P := by
  have key : ∃ k : Int, V (mulF a b) = V a * V b + (P : Int) * k := by
    obtain ⟨n0, n1, n2, n3, n4, l0, l1, l2, l3, l4⟩ := ha
    obtain ⟨k0, k1, k2, k3, k4, j0, j1, j2, j3, j4⟩ := hb
    unfold mulF
    rw [w64_in (x := 19 * b.x1) (by omega) (by omega)]
    rw [w64_in (x := 19 * b.x2) (by omega) (by omega)]
    rw [w64_in (x := 19 * b.x3) (by omega) (by omega)]
    rw [w64_in (x := 19 * b.x4) (by omega) (by omega)]
    obtain ⟨p00, q00⟩ := prod_bd n0 l0 k0 j0
    obtain ⟨p01, q01⟩ := prod_bd n0 l0 k1 j1
    obtain ⟨p02, q02⟩ := prod_bd n0 l0 k2 j2
    obtain ⟨p03, q03⟩ := prod_bd n0 l0 k3 j3
    obtain ⟨p04, q04⟩ := prod_bd n0 l0 k4 j4
    obtain ⟨p10, q10⟩ := prod_bd n1 l1 k0 j0
    obtain ⟨p11, q11⟩ := prod_bd n1 l1 k1 j1
    obtain ⟨p12, q12⟩ := prod_bd n1 l1 k2 j2
    obtain ⟨p13, q13⟩ := prod_bd n1 l1 k3 j3
    obtain ⟨p14, q14⟩ := prod_bd n1 l1 k4 j4
    obtain ⟨p20, q20⟩ := prod_bd n2 l2 k0 j0
    obtain ⟨p21, q21⟩ := prod_bd n2 l2 k1 j1
    obtain ⟨p22, q22⟩ := prod_bd n2 l2 k2 j2
    obtain ⟨p23, q23⟩ := prod_bd n2 l2 k3 j3
    obtain ⟨p24, q24⟩ := prod_bd n2 l2 k4 j4
    obtain ⟨p30, q30⟩ := prod_bd n3 l3 k0 j0
    obtain ⟨p31, q31⟩ := prod_bd n3 l3 k1 j1
    obtain ⟨p32, q32⟩ := prod_bd n3 l3 k2 j2
    obtain ⟨p33, q33⟩ := prod_bd n3 l3 k3 j3
    obtain ⟨p34, q34⟩ := prod_bd n3 l3 k4 j4
    obtain ⟨p40, q40⟩ := prod_bd n4 l4 k0 j0
    obtain ⟨p41, q41⟩ := prod_bd n4 l4 k1 j1
    obtain ⟨p42, q42⟩ := prod_bd n4 l4 k2 j2
    obtain ⟨p43, q43⟩ := prod_bd n4 l4 k3 j3
    obtain ⟨p44, q44⟩ := prod_bd n4 l4 k4 j4
    have e14 : a.x1 * (19 * b.x4) = 19 * (a.x1 * b.x4) := by rw [Int.mul_left_comm]
    have e23 : a.x2 * (19 * b.x3) = 19 * (a.x2 * b.x3) := by rw [Int.mul_left_comm]
    have e24 : a.x2 * (19 * b.x4) = 19 * (a.x2 * b.x4) := by rw [Int.mul_left_comm]
    have e32 : a.x3 * (19 * b.x2) = 19 * (a.x3 * b.x2) := by rw [Int.mul_left_comm]
    have e33 : a.x3 * (19 * b.x3) = 19 * (a.x3 * b.x3) := by rw [Int.mul_left_comm]
    have e34 : a.x3 * (19 * b.x4) = 19 * (a.x3 * b.x4) := by rw [Int.mul_left_comm]
    have e41 : a.x4 * (19 * b.x1) = 19 * (a.x4 * b.x1) := by rw [Int.mul_left_comm]
    have e42 : a.x4 * (19 * b.x2) = 19 * (a.x4 * b.x2) := by rw [Int.mul_left_comm]
    have e43 : a.x4 * (19 * b.x3) = 19 * (a.x4 * b.x3) := by rw [Int.mul_left_comm]
    have e44 : a.x4 * (19 * b.x4) = 19 * (a.x4 * b.x4) := by rw [Int.mul_left_comm]
    rw [s5_is (by omega) (by omega) (by omega) (by omega) (by omega) (by omega)]
    rw [s5_is (by omega) (by omega) (by omega) (by omega) (by omega) (by omega)]
    rw [s5_is (by omega) (by omega) (by omega) (by omega) (by omega) (by omega)]
    rw [s5_is (by omega) (by omega) (by omega) (by omega) (by omega) (by omega)]
    rw [s5_is (by omega) (by omega) (by omega) (by omega) (by omega) (by omega)]
    have hp := poly a.x0 a.x1 a.x2 a.x3 a.x4 b.x0 b.x1 b.x2 b.x3 b.x4
    obtain ⟨k, hk⟩ := join_V (s0 := a.x0 * b.x0 + a.x1 * (19 * b.x4) + a.x2 * (19 * b.x3) + a.x3 * (19 * b.x2) + a.x4 * (19 * b.x1)) (s1 := a.x0 * b.x1 + a.x1 * b.x0 + a.x2 * (19 * b.x4) + a.x3 * (19 * b.x3) + a.x4 * (19 * b.x2)) (s2 := a.x0 * b.x2 + a.x1 * b.x1 + a.x2 * b.x0 + a.x3 * (19 * b.x4) + a.x4 * (19 * b.x3)) (s3 := a.x0 * b.x3 + a.x1 * b.x2 + a.x2 * b.x1 + a.x3 * b.x0 + a.x4 * (19 * b.x4)) (s4 := a.x0 * b.x4 + a.x1 * b.x3 + a.x2 * b.x2 + a.x3 * b.x1 + a.x4 * b.x0)
      (by omega) (by omega) (by omega) (by omega) (by omega) (by omega) (by omega) (by omega) (by omega) (by omega)
    rw [hk]
    refine ⟨k - ((a.x1 * b.x4 + a.x2 * b.x3 + a.x3 * b.x2 + a.x4 * b.x1) + 2251799813685248 * (a.x2 * b.x4 + a.x3 * b.x3 + a.x4 * b.x2) + 5070602400912917605986812821504 * (a.x3 * b.x4 + a.x4 * b.x3) + 11417981541647679048466287755595961091061972992 * (a.x4 * b.x4)), ?_⟩
    simp only [V, P] at hp ⊢
    rw [hp]
    omega
  obtain ⟨k, hk⟩ := key
  apply of_cast (m_lt _)
  rw [m_cast, hk, Int.add_mul_emod_self_left, Int.natCast_mul, m_cast, m_cast, Int.emod_emod, ← Int.mul_emod]
theorem sq_is {a : Fe} (ha : Right a) : sqF a = mulF a a := by
  obtain ⟨n0, n1, n2, n3, n4, l0, l1, l2, l3, l4⟩ := ha
  unfold sqF mulF
  rw [w64_in (x := 19 * a.x1) (by omega) (by omega)]
  rw [w64_in (x := 19 * a.x2) (by omega) (by omega)]
  rw [w64_in (x := 19 * a.x3) (by omega) (by omega)]
  rw [w64_in (x := 19 * a.x4) (by omega) (by omega)]
  rw [w64_in (x := 2 * a.x0) (by omega) (by omega)]
  rw [w64_in (x := 2 * a.x1) (by omega) (by omega)]
  rw [w64_in (x := 2 * a.x2) (by omega) (by omega)]
  rw [w64_in (x := 2 * a.x3) (by omega) (by omega)]
  obtain ⟨p00, q00⟩ := prod_bd n0 l0 n0 l0
  obtain ⟨p01, q01⟩ := prod_bd n0 l0 n1 l1
  obtain ⟨p02, q02⟩ := prod_bd n0 l0 n2 l2
  obtain ⟨p03, q03⟩ := prod_bd n0 l0 n3 l3
  obtain ⟨p04, q04⟩ := prod_bd n0 l0 n4 l4
  obtain ⟨p10, q10⟩ := prod_bd n1 l1 n0 l0
  obtain ⟨p11, q11⟩ := prod_bd n1 l1 n1 l1
  obtain ⟨p12, q12⟩ := prod_bd n1 l1 n2 l2
  obtain ⟨p13, q13⟩ := prod_bd n1 l1 n3 l3
  obtain ⟨p14, q14⟩ := prod_bd n1 l1 n4 l4
  obtain ⟨p20, q20⟩ := prod_bd n2 l2 n0 l0
  obtain ⟨p21, q21⟩ := prod_bd n2 l2 n1 l1
  obtain ⟨p22, q22⟩ := prod_bd n2 l2 n2 l2
  obtain ⟨p23, q23⟩ := prod_bd n2 l2 n3 l3
  obtain ⟨p24, q24⟩ := prod_bd n2 l2 n4 l4
  obtain ⟨p30, q30⟩ := prod_bd n3 l3 n0 l0
  obtain ⟨p31, q31⟩ := prod_bd n3 l3 n1 l1
  obtain ⟨p32, q32⟩ := prod_bd n3 l3 n2 l2
  obtain ⟨p33, q33⟩ := prod_bd n3 l3 n3 l3
  obtain ⟨p34, q34⟩ := prod_bd n3 l3 n4 l4
  obtain ⟨p40, q40⟩ := prod_bd n4 l4 n0 l0
  obtain ⟨p41, q41⟩ := prod_bd n4 l4 n1 l1
  obtain ⟨p42, q42⟩ := prod_bd n4 l4 n2 l2
  obtain ⟨p43, q43⟩ := prod_bd n4 l4 n3 l3
  obtain ⟨p44, q44⟩ := prod_bd n4 l4 n4 l4
  have c10 : a.x1 * a.x0 = a.x0 * a.x1 := Int.mul_comm ..
  have e14 : a.x1 * (19 * a.x4) = 19 * (a.x1 * a.x4) := by rw [Int.mul_left_comm]
  have c20 : a.x2 * a.x0 = a.x0 * a.x2 := Int.mul_comm ..
  have c21 : a.x2 * a.x1 = a.x1 * a.x2 := Int.mul_comm ..
  have e23 : a.x2 * (19 * a.x3) = 19 * (a.x2 * a.x3) := by rw [Int.mul_left_comm]
  have e24 : a.x2 * (19 * a.x4) = 19 * (a.x2 * a.x4) := by rw [Int.mul_left_comm]
  have c30 : a.x3 * a.x0 = a.x0 * a.x3 := Int.mul_comm ..
  have c31 : a.x3 * a.x1 = a.x1 * a.x3 := Int.mul_comm ..
  have c32 : a.x3 * a.x2 = a.x2 * a.x3 := Int.mul_comm ..
  have e32 : a.x3 * (19 * a.x2) = 19 * (a.x3 * a.x2) := by rw [Int.mul_left_comm]
  have e33 : a.x3 * (19 * a.x3) = 19 * (a.x3 * a.x3) := by rw [Int.mul_left_comm]
  have e34 : a.x3 * (19 * a.x4) = 19 * (a.x3 * a.x4) := by rw [Int.mul_left_comm]
  have c40 : a.x4 * a.x0 = a.x0 * a.x4 := Int.mul_comm ..
  have c41 : a.x4 * a.x1 = a.x1 * a.x4 := Int.mul_comm ..
  have e41 : a.x4 * (19 * a.x1) = 19 * (a.x4 * a.x1) := by rw [Int.mul_left_comm]
  have c42 : a.x4 * a.x2 = a.x2 * a.x4 := Int.mul_comm ..
  have e42 : a.x4 * (19 * a.x2) = 19 * (a.x4 * a.x2) := by rw [Int.mul_left_comm]
  have c43 : a.x4 * a.x3 = a.x3 * a.x4 := Int.mul_comm ..
  have e43 : a.x4 * (19 * a.x3) = 19 * (a.x4 * a.x3) := by rw [Int.mul_left_comm]
  have e44 : a.x4 * (19 * a.x4) = 19 * (a.x4 * a.x4) := by rw [Int.mul_left_comm]
  have f14 : 2 * a.x1 * (19 * a.x4) = 38 * (a.x1 * a.x4) := by grind
  have f23 : 2 * a.x2 * (19 * a.x3) = 38 * (a.x2 * a.x3) := by grind
  have f24 : 2 * a.x2 * (19 * a.x4) = 38 * (a.x2 * a.x4) := by grind
  have f34 : 2 * a.x3 * (19 * a.x4) = 38 * (a.x3 * a.x4) := by grind
  have g01 : 2 * a.x0 * a.x1 = 2 * (a.x0 * a.x1) := Int.mul_assoc ..
  have g02 : 2 * a.x0 * a.x2 = 2 * (a.x0 * a.x2) := Int.mul_assoc ..
  have g03 : 2 * a.x0 * a.x3 = 2 * (a.x0 * a.x3) := Int.mul_assoc ..
  have g12 : 2 * a.x1 * a.x2 = 2 * (a.x1 * a.x2) := Int.mul_assoc ..
  have g04 : 2 * a.x0 * a.x4 = 2 * (a.x0 * a.x4) := Int.mul_assoc ..
  have g13 : 2 * a.x1 * a.x3 = 2 * (a.x1 * a.x3) := Int.mul_assoc ..
  rw [s3_is (by omega) (by omega) (by omega) (by omega)]
  rw [s3_is (by omega) (by omega) (by omega) (by omega)]
  rw [s3_is (by omega) (by omega) (by omega) (by omega)]
  rw [s3_is (by omega) (by omega) (by omega) (by omega)]
  rw [s3_is (by omega) (by omega) (by omega) (by omega)]
  rw [s5_is (by omega) (by omega) (by omega) (by omega) (by omega) (by omega)]
  rw [s5_is (by omega) (by omega) (by omega) (by omega) (by omega) (by omega)]
  rw [s5_is (by omega) (by omega) (by omega) (by omega) (by omega) (by omega)]
  rw [s5_is (by omega) (by omega) (by omega) (by omega) (by omega) (by omega)]
  rw [s5_is (by omega) (by omega) (by omega) (by omega) (by omega) (by omega)]
  congr 1 <;> omega
theorem sq_m {a : Fe} (ha : Right a) : m (sqF a) = m a * m a % P := by rw [sq_is ha, mul_m ha ha]
/-- the limbs of the number from 0 to p - 1 -/
def leastF (a : Fe) : Fe :=
  ⟨(m a : Int) % 2251799813685248, (m a : Int) / 2251799813685248 % 2251799813685248, (m a : Int) / 5070602400912917605986812821504 % 2251799813685248,
    (m a : Int) / 11417981541647679048466287755595961091061972992 % 2251799813685248, (m a : Int) / 25711008708143844408671393477458601640355247900524685364822016 % 2251799813685248⟩
def over1 (a : Fe) : Int := (a.x0 + 19) / 2251799813685248
def over2 (a : Fe) : Int := (a.x1 + over1 a) / 2251799813685248
def over3 (a : Fe) : Int := (a.x2 + over2 a) / 2251799813685248
def over4 (a : Fe) : Int := (a.x3 + over3 a) / 2251799813685248
def over5 (a : Fe) : Int := (a.x4 + over4 a) / 2251799813685248
def low0 (a : Fe) : Int := a.x0 + 19 * over5 a
def low1 (a : Fe) : Int := a.x1 + low0 a / 2251799813685248
def low2 (a : Fe) : Int := a.x2 + low1 a / 2251799813685248
def low3 (a : Fe) : Int := a.x3 + low2 a / 2251799813685248
def low4 (a : Fe) : Int := a.x4 + low3 a / 2251799813685248
/-- what carry leaves: each limb is hardly above its 51 bits -/
structure Low (a : Fe) : Prop where
  n0 : 0 ≤ a.x0
  n1 : 0 ≤ a.x1
  n2 : 0 ≤ a.x2
  n3 : 0 ≤ a.x3
  n4 : 0 ≤ a.x4
  l0 : a.x0 < 2251799813840896
  l1 : a.x1 < 2251799813693440
  l2 : a.x2 < 2251799813693440
  l3 : a.x3 < 2251799813693440
  l4 : a.x4 < 2251799813693440
theorem carry_low {a : Fe} (h : Ok a) : Low (carryF a) := by
  obtain ⟨n0, n1, n2, n3, n4, l0, l1, l2, l3, l4⟩ := h
  constructor <;> simp only [carryF] <;> omega
theorem over_is {a : Fe} (h : Low a) : over5 a = (V a + 19) / 57896044618658097711785492504343953926634992332820282019728792003956564819968 := by
  obtain ⟨n0, n1, n2, n3, n4, l0, l1, l2, l3, l4⟩ := h
  simp only [over5, over4, over3, over2, over1, V]
  omega
theorem over_01 {a : Fe} (h : Low a) : 0 ≤ over5 a ∧ over5 a ≤ 1 := by
  rw [over_is h]
  obtain ⟨n0, n1, n2, n3, n4, l0, l1, l2, l3, l4⟩ := h
  simp only [V]
  omega
theorem m_low {a : Fe} (h : Low a) : (m a : Int) = V a - (P : Int) * over5 a := by
  have e := over_is h
  rw [m_cast]
  obtain ⟨n0, n1, n2, n3, n4, l0, l1, l2, l3, l4⟩ := h
  simp only [V, P] at e ⊢
  omega
theorem digits {M d0 d1 d2 d3 d4 : Int} (n0 : 0 ≤ d0) (n1 : 0 ≤ d1) (n2 : 0 ≤ d2) (n3 : 0 ≤ d3) (n4 : 0 ≤ d4)
    (l0 : d0 < 2251799813685248) (l1 : d1 < 2251799813685248) (l2 : d2 < 2251799813685248) (l3 : d3 < 2251799813685248) (l4 : d4 < 2251799813685248)
    (h : M = d0 + 2251799813685248 * d1 + 5070602400912917605986812821504 * d2 + 11417981541647679048466287755595961091061972992 * d3 + 25711008708143844408671393477458601640355247900524685364822016 * d4) :
    (⟨M % 2251799813685248, M / 2251799813685248 % 2251799813685248, M / 5070602400912917605986812821504 % 2251799813685248, M / 11417981541647679048466287755595961091061972992 % 2251799813685248, M / 25711008708143844408671393477458601640355247900524685364822016 % 2251799813685248⟩ : Fe) = ⟨d0, d1, d2, d3, d4⟩ := by
  have e1 : M / 2251799813685248 = d1 + 2251799813685248 * d2 + 5070602400912917605986812821504 * d3 + 11417981541647679048466287755595961091061972992 * d4 := by omega
  have e2 : M / 5070602400912917605986812821504 = d2 + 2251799813685248 * d3 + 5070602400912917605986812821504 * d4 := by omega
  have e3 : M / 11417981541647679048466287755595961091061972992 = d3 + 2251799813685248 * d4 := by omega
  have e4 : M / 25711008708143844408671393477458601640355247900524685364822016 = d4 := by omega
  rw [e1, e2, e3, e4]
  congr 1 <;> omega
theorem least_is {a : Fe} (h : Low a) : leastF a = ⟨low0 a % 2251799813685248, low1 a % 2251799813685248, low2 a % 2251799813685248, low3 a % 2251799813685248, low4 a % 2251799813685248⟩ := by
  have e := m_low h
  have o := over_01 h
  have hl := m_lt a
  obtain ⟨n0, n1, n2, n3, n4, l0, l1, l2, l3, l4⟩ := h
  unfold leastF
  refine digits (by omega) (by omega) (by omega) (by omega) (by omega) (by omega) (by omega) (by omega) (by omega) (by omega) ?_
  have hn : (0 : Int) ≤ (m a : Int) := by omega
  have hl' : (m a : Int) < 57896044618658097711785492504343953926634992332820282019728792003956564819949 := by unfold P at hl; omega
  clear hl
  rw [e] at hn hl' ⊢
  simp only [V, P] at hn hl' ⊢
  simp only [low4, low3, low2, low1, low0]
  generalize over5 a = o5 at *
  omega
theorem least_carry (a : Fe) : leastF (carryF a) = leastF a := by unfold leastF; rw [carry_m]
end Fe
end Go.Proofs.YtcmnecnbcohaeaaGreatDoor

/- Numbers modulo 2^255 - 19: what is inverted, and roots. No program is named here. -/
namespace Go.Proofs.YtcmnecnbcohaeaaGreatDoor.Fe
open Num

/-- p - 1, p - 2, (p - 1) / 2, (p - 5) / 8, (p - 1) / 4 -/
def eFull : Nat := 57896044618658097711785492504343953926634992332820282019728792003956564819948
def eInv : Nat := 57896044618658097711785492504343953926634992332820282019728792003956564819947
def eHalf : Nat := 28948022309329048855892746252171976963317496166410141009864396001978282409974
def eEighth : Nat := 7237005577332262213973186563042994240829374041602535252466099000494570602493
def eFourth : Nat := 14474011154664524427946373126085988481658748083205070504932198000989141204987
theorem eFull_is : eFull = P - 1 := by decide +kernel
theorem eInv_is : eInv + 1 = eFull := by decide +kernel
theorem eHalf_is : eHalf + eHalf = eFull := by decide +kernel
theorem eHalf_is' : 2 * eHalf = eFull := by decide +kernel
theorem eFourth_is : eFourth + eFourth = eHalf := by decide +kernel
theorem eFourth_is' : 2 * eFourth = eHalf := by decide +kernel
theorem eEighth_is : eEighth + eEighth + 1 = eFourth := by decide +kernel
theorem P_prime : Prime P := p_prime
theorem P_2 : 2 ≤ P := P_prime.1
theorem not_dvd {x : Nat} (h : x % P ≠ 0) : ¬ P ∣ x := fun k => h (Nat.mod_eq_zero_of_dvd k)
theorem fermatP {x : Nat} (h : x % P ≠ 0) : x ^ eFull % P = 1 := by rw [eFull_is]; exact fermat P_prime (not_dvd h)
theorem mul_ne {x y : Nat} (hx : x % P ≠ 0) (hy : y % P ≠ 0) : x * y % P ≠ 0 := fun h => by
  rcases P_prime.dvd_mul (Nat.dvd_of_mod_eq_zero h) with k | k
  · exact hx (Nat.mod_eq_zero_of_dvd k)
  · exact hy (Nat.mod_eq_zero_of_dvd k)
theorem pow_ne {x : Nat} (hx : x % P ≠ 0) (n : Nat) : x ^ n % P ≠ 0 := by
  induction n with
  | zero => rw [Nat.pow_zero, Nat.mod_eq_of_lt P_2]; omega
  | succ n ih => rw [Nat.pow_succ]; exact mul_ne ih hx
theorem cong_mul {a b c d : Nat} (h : a % P = b % P) (k : c % P = d % P) : a * c % P = b * d % P := by rw [Nat.mul_mod, h, k, ← Nat.mul_mod]
theorem cong_pow {a b : Nat} (n : Nat) (h : a % P = b % P) : a ^ n % P = b ^ n % P := by rw [Nat.pow_mod, h, ← Nat.pow_mod]

/-- what is inverted -/
theorem inv_is (x : Nat) : x * (x ^ eInv % P) % P = if x % P = 0 then 0 else 1 := by
  by_cases h : x % P = 0
  · rw [if_pos h, Nat.mul_mod, h, Nat.zero_mul, Nat.zero_mod]
  · rw [if_neg h, Nat.mul_mod_mod, ← Nat.pow_succ', show eInv.succ = eFull from eInv_is, fermatP h]
theorem sq_one {y : Nat} (h : y * y % P = 1) : y % P = 1 ∨ y % P = P - 1 := by
  have h2 := P_2
  rcases Nat.eq_zero_or_pos y with e | e
  · subst e; rw [Nat.zero_mul, Nat.zero_mod] at h; omega
  · obtain ⟨z, rfl⟩ : ∃ z, y = z + 1 := ⟨y - 1, by omega⟩
    have e1 : (z + 1) * (z + 1) = z * (z + 2) + 1 := by grind
    have hd : P ∣ z * (z + 2) := by
      have := Nat.sub_mod_eq_zero_of_mod_eq (m := (z + 1) * (z + 1)) (n := 1) (k := P) (by rw [h, Nat.mod_eq_of_lt h2])
      rw [e1, Nat.add_sub_cancel] at this
      exact Nat.dvd_of_mod_eq_zero this
    rcases P_prime.dvd_mul hd with ⟨k, hk⟩ | ⟨k, hk⟩
    · left; rw [hk, Nat.mul_add_mod, Nat.mod_eq_of_lt h2]
    · right
      have : z + 1 = P * k - 1 := by omega
      unfold P at *
      omega
theorem half_one {x : Nat} (h : x % P ≠ 0) : x ^ eHalf % P = 1 ∨ x ^ eHalf % P = P - 1 := by
  apply sq_one
  rw [← Nat.pow_add, eHalf_is]
  exact fermatP h
theorem square_half {x s : Nat} (hx : x % P ≠ 0) (h : s * s % P = x % P) : x ^ eHalf % P = 1 := by
  have hs : s % P ≠ 0 := fun e => hx (by rw [← h, Nat.mul_mod, e, Nat.zero_mul, Nat.zero_mod])
  have e : (s * s) ^ eHalf = s ^ eFull := by
    rw [show s * s = s ^ 2 from by rw [Nat.pow_succ, Nat.pow_one], ← Nat.pow_mul, eHalf_is']
  rw [← cong_pow _ h, e, fermatP hs]
/-- a root of -1 -/
def i0 : Nat := 19681161376707505956807079304988542015446066515923890162744021073123829784752
theorem i0_is : i0 * i0 % P = P - 1 := by decide +kernel
theorem two_half : 2 ^ eHalf % P = P - 1 := pow_is 256 (by decide +kernel) (by decide +kernel)

def gN (u v : Nat) : Nat := u * v ^ 3 * (u * v ^ 7) ^ eEighth
def epsN (u v : Nat) : Nat := (u * v ^ 7) ^ eFourth
theorem g_sq (u v : Nat) : gN u v * gN u v * v = u * epsN u v := by
  have e : epsN u v = (u * v ^ 7) ^ eEighth * (u * v ^ 7) ^ eEighth * (u * v ^ 7) := by
    unfold epsN
    rw [← Nat.pow_add, ← Nat.pow_succ, ← eEighth_is]
  rw [e]
  unfold gN
  generalize (u * v ^ 7) ^ eEighth = Y
  grind
/-- r times r times v is u -/
def FitsN (r u v : Nat) : Prop := r * r * v % P = u % P
instance (r u v : Nat) : Decidable (FitsN r u v) := inferInstanceAs (Decidable (_ = _))
theorem minus_minus (x : Nat) : x * (P - 1) * (P - 1) % P = x % P := by
  have e : x * (P - 1) * (P - 1) = x + P * (x * (P - 2)) := by
    obtain ⟨q, hq⟩ : ∃ q, P = q + 2 := ⟨P - 2, by have := P_2; omega⟩
    rw [hq, show q + 2 - 1 = q + 1 by omega, show q + 2 - 2 = q by omega]
    grind
  rw [e, Nat.add_mul_mod_self_left]
/-- either the guess fits, or the guess times a root of -1 does -/
theorem fits_eps {u v : Nat} (h : epsN u v % P = 1 ∨ epsN u v % P = P - 1) : FitsN (gN u v) u v ∨ FitsN (gN u v * i0) u v := by
  have h2 := P_2
  rcases h with h | h
  · left
    unfold FitsN
    rw [g_sq, Nat.mul_mod, h, Nat.mul_one, Nat.mod_mod]
  · right
    unfold FitsN
    have e : gN u v * i0 * (gN u v * i0) * v = (gN u v * gN u v * v) * (i0 * i0) := by generalize gN u v = g; grind
    have c1 : epsN u v % P = (P - 1) % P := by rw [h, Nat.mod_eq_of_lt (by omega)]
    have c2 : i0 * i0 % P = (P - 1) % P := by rw [i0_is, Nat.mod_eq_of_lt (by omega)]
    rw [e, g_sq, cong_mul (cong_mul (rfl : u % P = u % P) c1) c2, minus_minus]
theorem fits_zero {u v : Nat} (h : u % P = 0) : FitsN (gN u v) u v := by
  unfold FitsN
  rw [g_sq, Nat.mul_mod, h, Nat.zero_mul, Nat.zero_mod]
/-- where there is a root, one of both fits -/
theorem fits_any {u v t : Nat} (h : t * t * v % P = u % P) : FitsN (gN u v) u v ∨ FitsN (gN u v * i0) u v := by
  by_cases hu : u % P = 0
  · exact Or.inl (fits_zero hu)
  have hv : v % P ≠ 0 := fun e => hu (by rw [← h, Nat.mul_mod, e, Nat.mul_zero, Nat.zero_mod])
  have ht : t % P ≠ 0 := fun e => hu (by rw [← h, Nat.mul_assoc, Nat.mul_mod, e, Nat.zero_mul, Nat.zero_mod])
  have hw := mul_ne ht (pow_ne hv 4)
  apply fits_eps
  have e : epsN u v % P = (t * v ^ 4) ^ eHalf % P := by
    have c : u * v ^ 7 % P = (t * v ^ 4) ^ 2 % P := by
      rw [cong_mul h.symm (rfl : v ^ 7 % P = v ^ 7 % P)]
      congr 1
      grind
    unfold epsN
    rw [cong_pow _ c, ← Nat.pow_mul, eFourth_is']
  rw [e]
  exact half_one hw
/-- where the half power is 1, one of both fits -/
theorem fits_half {u : Nat} (h : u ^ eHalf % P = 1) : FitsN (gN u 1) u 1 ∨ FitsN (gN u 1 * i0) u 1 := by
  apply fits_eps
  apply sq_one
  unfold epsN
  rw [← Nat.pow_add, eFourth_is, Nat.one_pow, Nat.mul_one]
  exact h
/-- of a number and twice it just one has the half power 1 -/
theorem half_two {x : Nat} (hx : x % P ≠ 0) : (x ^ eHalf % P = 1) ↔ ¬ ((x + x) ^ eHalf % P = 1) := by
  have h2 := P_2
  have hP : P - 1 ≠ 1 := by unfold P; omega
  have e : (x + x) ^ eHalf % P = (P - 1) * (x ^ eHalf) % P := by
    rw [show x + x = 2 * x by omega, Nat.mul_pow]
    exact cong_mul (by rw [two_half, Nat.mod_eq_of_lt (by omega)]) rfl
  rw [e]
  rcases half_one hx with h | h
  · rw [h, Nat.mul_mod, h, Nat.mul_one, Nat.mod_mod, Nat.mod_eq_of_lt (by omega : P - 1 < P)]
    simp [hP]
  · rw [h, Nat.mul_mod, h, Nat.mod_eq_of_lt (by omega : P - 1 < P)]
    have := minus_minus 1
    rw [Nat.one_mul] at this
    rw [this, Nat.mod_eq_of_lt h2]
    simp [hP]
/-- two roots are the same, or opposite -/
theorem roots_two {r a v : Nat} (hv : v % P ≠ 0) (hr : r < P) (ha : a < P) (h : r * r * v % P = a * a * v % P) : r = a ∨ r = (P - a) % P := by
  have h2 := P_2
  have go : ∀ x y : Nat, x < P → y < P → y ≤ x → x * x * v % P = y * y * v % P → x = y ∨ x + y = P := by
    intro x y hx hy hxy e
    have h1 := cancel P_prime (not_dvd hv) (Nat.mul_le_mul hxy hxy) e
    obtain ⟨d, rfl⟩ : ∃ d, x = y + d := ⟨x - y, by omega⟩
    have ed : (y + d) * (y + d) = y * y + d * (d + 2 * y) := by grind
    rw [ed, Nat.add_sub_cancel_left] at h1
    rcases P_prime.dvd_mul h1 with ⟨k, hk⟩ | ⟨k, hk⟩
    · left
      rcases Nat.eq_zero_or_pos k with z | z
      · subst z; omega
      · have := Nat.le_mul_of_pos_right P z; omega
    · rcases Nat.eq_zero_or_pos k with z | z
      · subst z; left; omega
      · right
        by_cases k1 : k = 1
        · subst k1; omega
        · have : P * 2 ≤ P * k := Nat.mul_le_mul_left P (by omega)
          omega
  rcases Nat.le_total a r with l | l
  · rcases go r a hr ha l h with e | e
    · exact Or.inl e
    · right; rw [Nat.mod_eq_of_lt (by omega)]; omega
  · rcases go a r ha hr l h.symm with e | e
    · exact Or.inl e.symm
    · right; rw [Nat.mod_eq_of_lt (by omega)]; omega
end Go.Proofs.YtcmnecnbcohaeaaGreatDoor.Fe

/- math/bits.Mul64 and Add64 at this dump (the first by the shelf's contract, laid in plain words by lay-plain.mjs; the second by the model's entry), over integers. -/
namespace Go.Proofs.YtcmnecnbcohaeaaGreatDoor
open Go.Shelf
def lays264_ren : Go.Shelf.Ren := ⟨fun | 264 => 132 | n => n, fun | 53 => 25 | 46 => 51 | n => n, fun | n => n⟩
theorem lays264 : Go.Proofs.Lays.n264 Tryz.prog lays264_ren := {
  mixed := by kernel_rfl
  f264 := Tryz.func132.trans (congrArg some (by kernel_rfl))
  t46 := Tryz.underlying51
  a46 := Tryz.isAgg51
  z46 := Tryz.sizeOf51
  v46 := Tryz.zeroValue51
  t53 := Tryz.underlying25
  a53 := Tryz.isAgg25
  z53 := Tryz.sizeOf25
  v53 := Tryz.zeroValue25 }
theorem mul64 (x y : Int) (hx0 : 0 ≤ x) (hy0 : 0 ≤ y) (hx : x < 18446744073709551616) (hy : y < 18446744073709551616) (w : World) :
    Calls Tryz.prog 132 #[.int .u64 x, .int .u64 y] w fun e w' => e = .returned (.tuple #[.int .u64 (x * y / 18446744073709551616), .int .u64 (x * y % 18446744073709551616)]) ∧ w = w' := by
  obtain ⟨x, rfl⟩ := Int.eq_ofNat_of_zero_le hx0
  obtain ⟨y, rfl⟩ := Int.eq_ofNat_of_zero_le hy0
  refine (Any.bits_Mul64 lays264 x y (by omega) (by omega) w).mono ?_
  rintro e w' ⟨rfl, rfl⟩
  refine ⟨?_, rfl⟩
  rw [Int.natCast_ediv, Int.natCast_emod, Int.natCast_mul]
  rfl
theorem add64 (x y : Int) (hx0 : 0 ≤ x) (hy0 : 0 ≤ y) (w : World) : (callFunc 133 #[.int .u64 x, .int .u64 y, .int .u64 0]).run Tryz.prog w =
    .ok (.value (.tuple #[.int .u64 ((x + y) % 18446744073709551616), .int .u64 ((x + y) / 18446744073709551616)])) w := by
  have h := run_add64 (P := Tryz.prog) x y 0 (by omega) (by omega) (by omega) (by omega) (w := w)
  rw [run_callFunc_extern Tryz.func133 (by kernel_rfl) (by kernel_rfl) (by kernel_rfl) (e := add64Entry) (by kernel_rfl), h]
  simp only [Result.andThen, Int.add_zero]
end Go.Proofs.YtcmnecnbcohaeaaGreatDoor

/- field: carry, and the sums of products: what the program's own functions answer. -/
namespace Go.Proofs.YtcmnecnbcohaeaaGreatDoor
open Go.RowKit

def Fe.v (a : Fe) : Value := .agg #[.int .u64 a.x0, .int .u64 a.x1, .int .u64 a.x2, .int .u64 a.x3, .int .u64 a.x4]

theorem mask51 (x : Int) (h0 : 0 ≤ x) (h1 : x < 18446744073709551616) : bits .and .u64 x 2251799813685247 = x % 2251799813685248 := by
  obtain ⟨x, rfl⟩ := Int.eq_ofNat_of_zero_le h0
  have e : (2251799813685247 : Int) = ((2251799813685247 : Nat) : Int) := rfl
  rw [e, u64_and_nat _ _ (by omega) (by decide), show (2251799813685247 : Nat) = 2 ^ 51 - 1 from rfl, Nat.and_two_pow_sub_one_eq_mod]
  omega
theorem wrapw (x : Int) : IntKind.u64.wrap x = Fe.w64 x := IntKind.wrap_u64 x
theorem carry_cell (x y : Int) (h0 : 0 ≤ x) (h1 : x < 18446744073709551616) (k0 : 0 ≤ y) (k1 : y < 18446744073709551616) :
    IntKind.u64.wrap (bits .and .u64 x 2251799813685247 + y / 2251799813685248) = x % 2251799813685248 + y / 2251799813685248 := by
  rw [mask51 x h0 h1, wrapw, Fe.w64_in] <;> omega
theorem carry_cell0 (x y : Int) (h0 : 0 ≤ x) (h1 : x < 18446744073709551616) (k0 : 0 ≤ y) (k1 : y < 18446744073709551616) :
    IntKind.u64.wrap (bits .and .u64 x 2251799813685247 + 19 * (y / 2251799813685248)) = x % 2251799813685248 + 19 * (y / 2251799813685248) := by
  rw [mask51 x h0 h1, wrapw, Fe.w64_in] <;> omega
set_option maxHeartbeats 400000 in
theorem carry_any (x0 x1 x2 x3 x4 : Int) (w : World) (n0 : 0 ≤ x0) (n1 : 0 ≤ x1) (n2 : 0 ≤ x2) (n3 : 0 ≤ x3) (n4 : 0 ≤ x4)
    (l0 : x0 < 18446744073709551616) (l1 : x1 < 18446744073709551616) (l2 : x2 < 18446744073709551616) (l3 : x3 < 18446744073709551616) (l4 : x4 < 18446744073709551616) :
    Calls Tryz.prog 81 #[.agg #[.int .u64 x0, .int .u64 x1, .int .u64 x2, .int .u64 x3, .int .u64 x4]] w fun e w' => e = .returned (Fe.carryF ⟨x0, x1, x2, x3, x4⟩).v ∧ w.grownBy w' none := by
  have H0 := Lib.hid (carry_cell0 x0 x4 n0 l0 n4 l4)
  have H1 := Lib.hid (carry_cell x1 x0 n1 l1 n0 l0)
  have H2 := Lib.hid (carry_cell x2 x1 n2 l2 n1 l1)
  have H3 := Lib.hid (carry_cell x3 x2 n3 l3 n2 l2)
  have H4 := Lib.hid (carry_cell x4 x3 n4 l4 n3 l3)
  go_enter Tryz.func81, Tryz.ntmps81
  go_wp2
  refine bodyPost_ret (v := (Fe.carryF ⟨x0, x1, x2, x3, x4⟩).v) ?_ rfl ⟨rfl, gb_alloc (gb_alloc (gb_refl _ _) _) _⟩
  simp [results, Tryz.results81, go_sem]
  rw [H0.out, H1.out, H2.out, H3.out, H4.out]
  rfl
theorem carry_fe (a : Fe) (w : World) (h : a.Ok) : Calls Tryz.prog 81 #[a.v] w fun e w' => e = .returned (Fe.carryF a).v ∧ w.grownBy w' none :=
  carry_any a.x0 a.x1 a.x2 a.x3 a.x4 w h.n0 h.n1 h.n2 h.n3 h.n4 h.l0 h.l1 h.l2 h.l3 h.l4

/-- a sum of products, as its two halves -/
def sumV (S : Int) : Value := .agg #[.int .u64 (S / 18446744073709551616), .int .u64 (S % 18446744073709551616)]
structure Is128 (S : Int) : Prop where
  n : 0 ≤ S
  l : S < 340282366920938463463374607431768211456
theorem rest_bits (h l : Int) (h0 : 0 ≤ h) (h1 : h < 18446744073709551616) (l0 : 0 ≤ l) (l1 : l < 18446744073709551616) :
    bits .or .u64 (IntKind.u64.wrap (h * 8192)) (l / 2251799813685248) = Fe.restS (h * 18446744073709551616 + l) := by
  obtain ⟨h, rfl⟩ := Int.eq_ofNat_of_zero_le h0
  obtain ⟨l, rfl⟩ := Int.eq_ofNat_of_zero_le l0
  have e1 : IntKind.u64.wrap ((h : Int) * 8192) = ((2 ^ 13 * (h % 2251799813685248) : Nat) : Int) := by rw [wrapw]; unfold Fe.w64; omega
  have e2 : (l : Int) / 2251799813685248 = ((l / 2251799813685248 : Nat) : Int) := by omega
  rw [e1, e2, u64_or_nat _ _ (by omega) (by omega), ← Nat.two_pow_add_eq_or_of_lt (by omega)]
  unfold Fe.restS Fe.w64
  omega
theorem limb_bits (h l : Int) (l0 : 0 ≤ l) (l1 : l < 18446744073709551616) : bits .and .u64 l 2251799813685247 = Fe.limbS (h * 18446744073709551616 + l) := by
  rw [mask51 l l0 l1]; unfold Fe.limbS; omega
set_option maxHeartbeats 400000 in
theorem limb_any (h l : Int) (w : World) (l0 : 0 ≤ l) (l1 : l < 18446744073709551616) :
    Calls Tryz.prog 119 #[.agg #[.int .u64 h, .int .u64 l]] w fun e w' => e = .returned (.int .u64 (Fe.limbS (h * 18446744073709551616 + l))) ∧ w' = w.alloc (.cells #[.int .u64 h, .int .u64 l] 125) := by
  have H0 := Lib.hid (limb_bits h l l0 l1)
  go_enter Tryz.func119, Tryz.ntmps119
  go_wp2
  go_ret
  exact ⟨by rw [H0.out]; rfl, rfl⟩
set_option maxHeartbeats 400000 in
theorem rest_any (h l : Int) (w : World) (h0 : 0 ≤ h) (h1 : h < 18446744073709551616) (l0 : 0 ≤ l) (l1 : l < 18446744073709551616) :
    Calls Tryz.prog 120 #[.agg #[.int .u64 h, .int .u64 l]] w fun e w' => e = .returned (.int .u64 (Fe.restS (h * 18446744073709551616 + l))) ∧ w' = w.alloc (.cells #[.int .u64 h, .int .u64 l] 125) := by
  have H0 := Lib.hid (rest_bits h l h0 h1 l0 l1)
  go_enter Tryz.func120, Tryz.ntmps120
  go_wp2
  go_ret
  exact ⟨by rw [H0.out]; rfl, rfl⟩
theorem add_step (h l a b : Int) :
    (l + a * b) % 18446744073709551616 = Fe.addS (h * 18446744073709551616 + l) a b % 18446744073709551616 ∧
    IntKind.u64.wrap (h + IntKind.u64.wrap (a * b / 18446744073709551616 + (l + a * b % 18446744073709551616) / 18446744073709551616)) = Fe.addS (h * 18446744073709551616 + l) a b / 18446744073709551616 := by
  rw [wrapw, wrapw]
  unfold Fe.addS Fe.w64
  generalize a * b = p at *
  omega
set_option maxHeartbeats 400000 in
theorem wadd_any (B : Nat) (h l a b : Int) (w : World) (T : TypeId) (l0 : 0 ≤ l)
    (a0 : 0 ≤ a) (a1 : a < 18446744073709551616) (b0 : 0 ≤ b) (b1 : b < 18446744073709551616) (hb : Blk w B T [.int .u64 h, .int .u64 l]) :
    Calls Tryz.prog 121 #[.pointer (some ⟨B, 0, none⟩), .int .u64 a, .int .u64 b] w fun e w' => e = .returned (.tuple #[]) ∧ w.grownBy w' (some B) ∧
      Blk w' B T [.int .u64 (Fe.addS (h * 18446744073709551616 + l) a b / 18446744073709551616), .int .u64 (Fe.addS (h * 18446744073709551616 + l) a b % 18446744073709551616)] := by
  have H := Lib.hid (add_step h l a b)
  have q0 : 0 ≤ a * b % 18446744073709551616 := by omega
  have c0 := hb.cell (i := 0) rfl
  have c1 := hb.cell (i := 1) rfl
  have f0 := hb.free 0
  have f1 := hb.free 1
  go_enter Tryz.func121, Tryz.ntmps121
  go_wp2_with (first | (go_at_call 132; refine (mul64 _ _ a0 b0 a1 b1 _).mono ?_; rintro e w' ⟨rfl, rfl⟩) | simp only [add64 _ _ l0 q0])
  go_end0
  refine ⟨rfl, gb_set (gb_set (gb_refl _ _) _ _) _ _, ?_⟩
  rw [H.out.1, H.out.2]
  exact (hb.set 1 _).set 0 _

/-- pairs, as the cells of a row -/
def flat : List (Int × Int) → List Value
  | [] => []
  | p :: r => .int .u64 p.1 :: .int .u64 p.2 :: flat r
theorem flat_get (ps : List (Int × Int)) (k : Nat) (h : k < ps.length) : (flat ps)[k * 2]? = some (.int .u64 (ps.getD k (0, 0)).1) ∧ (flat ps)[k * 2 + 1]? = some (.int .u64 (ps.getD k (0, 0)).2) := by
  induction ps generalizing k with
  | nil => simp at h
  | cons p r ih =>
    cases k with
    | zero => exact ⟨rfl, rfl⟩
    | succ k =>
      have := ih k (by simpa using h)
      rw [show (k + 1) * 2 = k * 2 + 1 + 1 by omega]
      simpa [flat] using this
def sumL (ps : List (Int × Int)) : Int := ps.foldl (fun S p => Fe.addS S p.1 p.2) 0
theorem sumL_snoc (ps : List (Int × Int)) (k : Nat) (h : k < ps.length) : sumL (ps.take (k + 1)) = Fe.addS (sumL (ps.take k)) (ps.getD k (0, 0)).1 (ps.getD k (0, 0)).2 := by
  have e : ps.getD k (0, 0) = ps[k] := by rw [List.getD_eq_getElem?_getD, List.getElem?_eq_getElem h]; rfl
  unfold sumL
  rw [List.take_succ_eq_append_getElem h, List.foldl_append, e]
  rfl
theorem addS_bd (S a b : Int) : 0 ≤ Fe.addS S a b ∧ Fe.addS S a b < 340282366920938463463374607431768211456 := by unfold Fe.addS; omega
theorem sumL_bd (ps : List (Int × Int)) : 0 ≤ sumL ps ∧ sumL ps < 340282366920938463463374607431768211456 := by
  rcases List.eq_nil_or_concat ps with rfl | ⟨l, x, rfl⟩
  · unfold sumL; simp
  · unfold sumL; rw [List.concat_eq_append, List.foldl_append]; exact addS_bd ..
theorem some_ne {a b : Nat} (h : a ≠ b) : some a ≠ some b := fun e => h (Option.some.inj e)
theorem halves (S : Int) : S / 18446744073709551616 * 18446744073709551616 + S % 18446744073709551616 = S := by omega
set_option maxHeartbeats 800000 in
theorem sumUp_any (PB n : Nat) (ps : List (Int × Int)) (w : World) (T : TypeId) (hn : ps.length = n) (hn2 : n ≤ 1000) (hb : Blk w PB T (flat ps))
    (hp : ∀ p ∈ ps, 0 ≤ p.1 ∧ p.1 < 18446744073709551616 ∧ 0 ≤ p.2 ∧ p.2 < 18446744073709551616) :
    Calls Tryz.prog 80 #[.slice (some ⟨PB, 0, none⟩) n n] w fun e w' => e = .returned (sumV (sumL ps)) ∧ w.grownBy w' none := by
  have hlt := hb.lt
  have Hn := Lib.hid hn; clear hn
  go_enter Tryz.func80, Tryz.ntmps80
  go_wp2
  go_loopw [8] (fun i wr => ∃ k : Nat, k ≤ n ∧ i = .int .i64 k ∧ w.grownBy wr none ∧ Blk wr PB T (flat ps) ∧ w.heap.size + 1 < wr.heap.size ∧
      Blk wr w.heap.size 125 [.int .u64 0, .int .u64 0] ∧
      Blk wr (w.heap.size + 1) 125 [.int .u64 (sumL (ps.take k) / 18446744073709551616), .int .u64 (sumL (ps.take k) % 18446744073709551616)]) (fun i _ => n - (intOf i).toNat)
  case atStart =>
    refine ⟨0, by omega, rfl, gb_alloc (gb_alloc (gb_refl _ _) _) _, (hb.alloc _).alloc _, by simp, ?_, ?_⟩
    · exact (Blk.new w [.int .u64 0, .int .u64 0] 125).alloc _
    · have := Blk.new (w.alloc (.cells #[.int .u64 0, .int .u64 0] 125)) [.int .u64 0, .int .u64 0] 125
      simpa [sumL] using this
  case round =>
    obtain ⟨k, hk, rfl, hg, hB, hsz, hR, hS⟩ := hrel
    by_cases hkn : k < n
    · have hkl : k < ps.length := by rw [Hn.out]; exact hkn
      have hsb := sumL_bd (ps.take k)
      have Hs := Lib.hid (sumL_snoc ps k hkl)
      have hget := flat_get ps k hkl
      have hmem : ps.getD k (0, 0) ∈ ps := by rw [List.getD_eq_getElem?_getD, List.getElem?_eq_getElem hkl]; exact List.getElem_mem hkl
      obtain ⟨p0, p1, p2, p3⟩ := hp _ hmem
      obtain ⟨S, hS0⟩ : ∃ S, S = sumL (ps.take k) := ⟨_, rfl⟩
      rw [← hS0] at hsb hS
      have HS0 := Lib.hid hS0; clear hS0
      obtain ⟨a, ha⟩ : ∃ a, a = (ps.getD k (0, 0)).1 := ⟨_, rfl⟩
      obtain ⟨b, hbb⟩ : ∃ b, b = (ps.getD k (0, 0)).2 := ⟨_, rfl⟩
      rw [← ha, ← hbb] at hget
      rw [← ha] at p0 p1
      rw [← hbb] at p2 p3
      have Ha := Lib.hid ha; clear ha
      have Hb := Lib.hid hbb; clear hbb
      have c0 := hB.cell hget.1
      have c1 := hB.cell hget.2
      clear hget hmem hkl
      have s0 : 0 ≤ S / 18446744073709551616 := by omega
      have s1 : S / 18446744073709551616 < 18446744073709551616 := by omega
      have s2 : 0 ≤ S % 18446744073709551616 := by omega
      go_wp2_with (go_at_call 121; refine (wadd_any (w.heap.size + 1) _ _ a b _ 125 s2 p0 p1 p2 p3 (hS.alloc _)).mono ?_; rintro e w1 ⟨rfl, hg1, hS1⟩)
      have hsz1 : w.heap.size + 1 < w1.heap.size := by have := hg1.size; simp at this; omega
      go_roundw
      case rel =>
        refine ⟨k + 1, by omega, by go_num, gb_then (gb_alloc hg _) hg1 (by omega), (hB.alloc _).grown hg1 (some_ne (by omega)), hsz1, (hR.alloc _).grown hg1 (some_ne (by omega)), ?_⟩
        rw [Hs.out, ← HS0.out, ← Ha.out, ← Hb.out]
        rw [halves] at hS1
        exact hS1
      case measure => simp [intOf]; omega
    · obtain rfl : k = n := by omega
      have e : ps.take k = ps := by rw [List.take_of_length_le]; rw [Hn.out]; omega
      rw [e] at hS
      clear e
      obtain ⟨S, hS0⟩ : ∃ S, S = sumL ps := ⟨_, rfl⟩
      rw [← hS0] at hS
      have HS0 := Lib.hid hS0; clear hS0
      have c0 := hS.cell (i := 0) rfl
      have c1 := hS.cell (i := 1) rfl
      have r0 := hR.cell (i := 0) rfl
      have r1 := hR.cell (i := 1) rfl
      have z0 := hR.free 0
      have z1 := hR.free 1
      go_wp2
      refine bodyPost_ret (v := .agg #[.int .u64 (S / 18446744073709551616), .int .u64 (S % 18446744073709551616)]) ?_ rfl ⟨by rw [← HS0.out]; rfl, ?_⟩
      · simp [results, Tryz.results80, go_sem, r0, r1]
      · exact gb_set_new (gb_set_new hg (Nat.le_refl _) _) (Nat.le_refl _) _
end Go.Proofs.YtcmnecnbcohaeaaGreatDoor

/- field: join: what it answers of five sums. -/
namespace Go.Proofs.YtcmnecnbcohaeaaGreatDoor
open Go.RowKit

theorem limb_gb (h l : Int) (w : World) (l0 : 0 ≤ l) (l1 : l < 18446744073709551616) :
    Calls Tryz.prog 119 #[.agg #[.int .u64 h, .int .u64 l]] w fun e w' => e = .returned (.int .u64 (Fe.limbS (h * 18446744073709551616 + l))) ∧ w.grownBy w' none :=
  (limb_any h l w l0 l1).mono fun _ _ ⟨he, hw⟩ => ⟨he, hw ▸ gb_alloc (gb_refl _ _) _⟩
theorem rest_gb (h l : Int) (w : World) (h0 : 0 ≤ h) (h1 : h < 18446744073709551616) (l0 : 0 ≤ l) (l1 : l < 18446744073709551616) :
    Calls Tryz.prog 120 #[.agg #[.int .u64 h, .int .u64 l]] w fun e w' => e = .returned (.int .u64 (Fe.restS (h * 18446744073709551616 + l))) ∧ w.grownBy w' none :=
  (rest_any h l w h0 h1 l0 l1).mono fun _ _ ⟨he, hw⟩ => ⟨he, hw ▸ gb_alloc (gb_refl _ _) _⟩

theorem Blk.newAt (w : World) {B : Nat} (L : List Value) (T : TypeId) (h : w.heap.size = B) : Blk (w.alloc (.cells L.toArray T)) B T L := h ▸ Blk.new w L T
/-- a block of five cells -/
def Room5 (w : World) (B : Nat) (T : TypeId) : Prop := ∃ u0 u1 u2 u3 u4 : Value, Blk w B T [u0, u1, u2, u3, u4]
theorem Room5.grown {w w' : World} {B : Nat} {T : TypeId} {row : Option Nat} (h : Room5 w B T) (hg : w.grownBy w' row) (hr : some B ≠ row) : Room5 w' B T :=
  let ⟨_, _, _, _, _, hb⟩ := h; ⟨_, _, _, _, _, hb.grown hg hr⟩
theorem Room5.set5 {w : World} {B : Nat} {T : TypeId} (h : Room5 w B T) (v0 v1 v2 v3 v4 : Value) :
    Blk (((((w.setCell ⟨B, 0, none⟩ v0).setCell ⟨B, 1, none⟩ v1).setCell ⟨B, 2, none⟩ v2).setCell ⟨B, 3, none⟩ v3).setCell ⟨B, 4, none⟩ v4) B T [v0, v1, v2, v3, v4] :=
  let ⟨_, _, _, _, _, hb⟩ := h; ((((hb.set 0 v0).set 1 v1).set 2 v2).set 3 v3).set 4 v4
/-- an element comes back, which is F; the world has grown -/
def FeOut (F : Fe) (w : World) (e : Ending) (w' : World) : Prop :=
  ∃ r : Fe, Hid (r = F) ∧ e = .returned (.agg #[.int .u64 r.x0, .int .u64 r.x1, .int .u64 r.x2, .int .u64 r.x3, .int .u64 r.x4]) ∧ w.grownBy w' none
theorem feOut_of {F : Fe} {w : World} {e : Ending} {w' : World} (h : e = .returned F.v ∧ w.grownBy w' none) : FeOut F w e w' := ⟨F, Lib.hid rfl, h.1, h.2⟩
theorem feOut_is {F : Fe} {w : World} {e : Ending} {w' : World} (h : FeOut F w e w') : e = .returned F.v ∧ w.grownBy w' none := by
  obtain ⟨r, hr, he, hg⟩ := h
  have := hr.out
  subst this
  exact ⟨he, hg⟩
theorem carry_w (y0 y1 y2 y3 y4 : Int) (w : World) :
    Calls Tryz.prog 81 #[.agg #[.int .u64 (IntKind.u64.wrap y0), .int .u64 (IntKind.u64.wrap y1), .int .u64 (IntKind.u64.wrap y2), .int .u64 (IntKind.u64.wrap y3), .int .u64 (IntKind.u64.wrap y4)]] w (FeOut (Fe.carryF ⟨Fe.w64 y0, Fe.w64 y1, Fe.w64 y2, Fe.w64 y3, Fe.w64 y4⟩) w) := by
  simp only [wrapw]
  exact (carry_fe ⟨Fe.w64 y0, Fe.w64 y1, Fe.w64 y2, Fe.w64 y3, Fe.w64 y4⟩ w (Fe.w64_ok ..)).mono fun _ _ => feOut_of
abbrev JoinS (h0 l0 h1 l1 h2 l2 h3 l3 h4 l4 : Int) (w w' : World) : Prop := Blk w' w.heap.size 129 [.int .u64 h0, .int .u64 l0, .int .u64 h1, .int .u64 l1, .int .u64 h2, .int .u64 l2, .int .u64 h3, .int .u64 l3, .int .u64 h4, .int .u64 l4] ∧ Room5 w' (w.heap.size + 1) 27 ∧ w.grownBy w' none ∧ w'.cell? ⟨w.heap.size, 0, none⟩ = some (.int .u64 h0) ∧ w'.cell? ⟨w.heap.size, 1, none⟩ = some (.int .u64 l0) ∧ w'.cell? ⟨w.heap.size, 2, none⟩ = some (.int .u64 h1) ∧ w'.cell? ⟨w.heap.size, 3, none⟩ = some (.int .u64 l1) ∧ w'.cell? ⟨w.heap.size, 4, none⟩ = some (.int .u64 h2) ∧ w'.cell? ⟨w.heap.size, 5, none⟩ = some (.int .u64 l2) ∧ w'.cell? ⟨w.heap.size, 6, none⟩ = some (.int .u64 h3) ∧ w'.cell? ⟨w.heap.size, 7, none⟩ = some (.int .u64 l3) ∧ w'.cell? ⟨w.heap.size, 8, none⟩ = some (.int .u64 h4) ∧ w'.cell? ⟨w.heap.size, 9, none⟩ = some (.int .u64 l4)
theorem joinS_mk {h0 l0 h1 l1 h2 l2 h3 l3 h4 l4 : Int} {w w' : World} (hA : Blk w' w.heap.size 129 [.int .u64 h0, .int .u64 l0, .int .u64 h1, .int .u64 l1, .int .u64 h2, .int .u64 l2, .int .u64 h3, .int .u64 l3, .int .u64 h4, .int .u64 l4]) (hB : Room5 w' (w.heap.size + 1) 27) (hG : w.grownBy w' none) : JoinS h0 l0 h1 l1 h2 l2 h3 l3 h4 l4 w w' :=
  ⟨hA, hB, hG, hA.cell (i := 0) rfl, hA.cell (i := 1) rfl, hA.cell (i := 2) rfl, hA.cell (i := 3) rfl, hA.cell (i := 4) rfl, hA.cell (i := 5) rfl, hA.cell (i := 6) rfl, hA.cell (i := 7) rfl, hA.cell (i := 8) rfl, hA.cell (i := 9) rfl⟩
theorem joinS_keep {h0 l0 h1 l1 h2 l2 h3 l3 h4 l4 : Int} {w w1 w2 : World} (hg : w1.grownBy w2 none) (hS : JoinS h0 l0 h1 l1 h2 l2 h3 l3 h4 l4 w w1) : JoinS h0 l0 h1 l1 h2 l2 h3 l3 h4 l4 w w2 :=
  joinS_mk (hS.1.grown hg (by simp)) (hS.2.1.grown hg (by simp)) (gb_trans hS.2.2.1 hg)

theorem joinS_set {h0 l0 h1 l1 h2 l2 h3 l3 h4 l4 : Int} {w w1 : World} (hS : JoinS h0 l0 h1 l1 h2 l2 h3 l3 h4 l4 w w1) (v0 v1 v2 v3 v4 : Value) :
    JoinS h0 l0 h1 l1 h2 l2 h3 l3 h4 l4 w (((((w1.setCell ⟨w.heap.size + 1, 0, none⟩ v0).setCell ⟨w.heap.size + 1, 1, none⟩ v1).setCell ⟨w.heap.size + 1, 2, none⟩ v2).setCell ⟨w.heap.size + 1, 3, none⟩ v3).setCell ⟨w.heap.size + 1, 4, none⟩ v4) :=
  joinS_mk (((((hS.1.other (by simp) v0).other (by simp) v1).other (by simp) v2).other (by simp) v3).other (by simp) v4) ⟨_, _, _, _, _, hS.2.1.set5 v0 v1 v2 v3 v4⟩
    (gb_set_new (gb_set_new (gb_set_new (gb_set_new (gb_set_new hS.2.2.1 (by simp) _) (by simp) _) (by simp) _) (by simp) _) (by simp) _)

set_option maxRecDepth 100000 in
set_option maxHeartbeats 1600000 in
theorem fjoin_any (h0 l0 h1 l1 h2 l2 h3 l3 h4 l4 : Int) (w : World)
    (a0 : 0 ≤ h0) (a1 : 0 ≤ h1) (a2 : 0 ≤ h2) (a3 : 0 ≤ h3) (a4 : 0 ≤ h4) (b0 : 0 ≤ l0) (b1 : 0 ≤ l1) (b2 : 0 ≤ l2) (b3 : 0 ≤ l3) (b4 : 0 ≤ l4)
    (c0 : h0 < 18446744073709551616) (c1 : h1 < 18446744073709551616) (c2 : h2 < 18446744073709551616) (c3 : h3 < 18446744073709551616) (c4 : h4 < 18446744073709551616)
    (d0 : l0 < 18446744073709551616) (d1 : l1 < 18446744073709551616) (d2 : l2 < 18446744073709551616) (d3 : l3 < 18446744073709551616) (d4 : l4 < 18446744073709551616) :
    Calls Tryz.prog 79 #[.agg #[.int .u64 h0, .int .u64 l0, .int .u64 h1, .int .u64 l1, .int .u64 h2, .int .u64 l2, .int .u64 h3, .int .u64 l3, .int .u64 h4, .int .u64 l4]] w fun e w' =>
      e = .returned (Fe.joinF (h0 * 18446744073709551616 + l0) (h1 * 18446744073709551616 + l1) (h2 * 18446744073709551616 + l2) (h3 * 18446744073709551616 + l3) (h4 * 18446744073709551616 + l4)).v ∧ w.grownBy w' none := by
  go_enter Tryz.func79, Tryz.ntmps79
  go_wp2
  have hS0 : JoinS h0 l0 h1 l1 h2 l2 h3 l3 h4 l4 w ((w.alloc (.cells #[.int .u64 h0, .int .u64 l0, .int .u64 h1, .int .u64 l1, .int .u64 h2, .int .u64 l2, .int .u64 h3, .int .u64 l3, .int .u64 h4, .int .u64 l4] 129)).alloc (.cells #[.int .u64 0, .int .u64 0, .int .u64 0, .int .u64 0, .int .u64 0] 27)).drew :=
    joinS_mk ((Blk.new w _ _).alloc _).drew ⟨_, _, _, _, _, (Blk.newAt (w.alloc _) [.int .u64 0, .int .u64 0, .int .u64 0, .int .u64 0, .int .u64 0] _ (by simp)).drew⟩ (gb_drew (gb_alloc (gb_alloc (gb_refl _ _) _) _))
  revert hS0
  generalize (w.alloc (.cells #[.int .u64 h0, .int .u64 l0, .int .u64 h1, .int .u64 l1, .int .u64 h2, .int .u64 l2, .int .u64 h3, .int .u64 l3, .int .u64 h4, .int .u64 l4] 129)).alloc (.cells #[.int .u64 0, .int .u64 0, .int .u64 0, .int .u64 0, .int .u64 0] 27) = W0
  intro hS0
  go_region_held3 (fun w' => Blk w' w.heap.size 129 [.int .u64 h0, .int .u64 l0, .int .u64 h1, .int .u64 l1, .int .u64 h2, .int .u64 l2, .int .u64 h3, .int .u64 l3, .int .u64 h4, .int .u64 l4] ∧ Room5 w' (w.heap.size + 1) 27 ∧ w.grownBy w' none ∧ w'.cell? ⟨w.heap.size, 0, none⟩ = some (.int .u64 h0) ∧ w'.cell? ⟨w.heap.size, 1, none⟩ = some (.int .u64 l0) ∧ w'.cell? ⟨w.heap.size, 2, none⟩ = some (.int .u64 h1) ∧ w'.cell? ⟨w.heap.size, 3, none⟩ = some (.int .u64 l1) ∧ w'.cell? ⟨w.heap.size, 4, none⟩ = some (.int .u64 h2) ∧ w'.cell? ⟨w.heap.size, 5, none⟩ = some (.int .u64 l2) ∧ w'.cell? ⟨w.heap.size, 6, none⟩ = some (.int .u64 h3) ∧ w'.cell? ⟨w.heap.size, 7, none⟩ = some (.int .u64 l3) ∧ w'.cell? ⟨w.heap.size, 8, none⟩ = some (.int .u64 h4) ∧ w'.cell? ⟨w.heap.size, 9, none⟩ = some (.int .u64 l4))
    (first | (with_reducible exact hS0) | (with_reducible exact joinS_keep (by assumption) (by assumption)) | (with_reducible exact joinS_set (by assumption) _ _ _ _ _))
    (first | (go_simp; go_at_call 119; refine (limb_gb _ _ _ ?_ ?_).mono ?_; assumption; assumption; rintro e w1 ⟨rfl, hg1⟩) | (go_simp; go_at_call 120; refine (rest_gb _ _ _ ?_ ?_ ?_ ?_).mono ?_; assumption; assumption; assumption; assumption; rintro e w1 ⟨rfl, hg1⟩) | (go_simp; go_at_call 81; refine (carry_w _ _ _ _ _ _).mono ?_; rintro e w1 ⟨r, hr, rfl, hg1⟩; obtain ⟨u0, u1, u2, u3, u4, hR⟩ : Room5 w1 (w.heap.size + 1) 27 := Room5.grown (And.left (And.right (by assumption : JoinS h0 l0 h1 l1 h2 l2 h3 l3 h4 l4 w _))) hg1 (by simp); have z0 := hR.cell (i := 0) rfl; have z1 := hR.cell (i := 1) rfl; have z2 := hR.cell (i := 2) rfl; have z3 := hR.cell (i := 3) rfl; have z4 := hR.cell (i := 4) rfl; have y0 := hR.free 0; have y1 := hR.free 1; have y2 := hR.free 2; have y3 := hR.free 3; have y4 := hR.free 4))
  go_wp2
  refine bodyPost_ret (v := .agg #[.int .u64 r.x0, .int .u64 r.x1, .int .u64 r.x2, .int .u64 r.x3, .int .u64 r.x4]) ?_ rfl ⟨?_, ?_⟩
  · simp [results, Tryz.results79, go_sem, z0, z1, z2, z3, z4]
  · unfold Fe.joinF
    have e := hr.out
    rw [wrapw] at e
    rw [← e]; rfl
  · with_reducible exact (show JoinS h0 l0 h1 l1 h2 l2 h3 l3 h4 l4 w _ from (by assumption)).2.2.1
end Go.Proofs.YtcmnecnbcohaeaaGreatDoor

/- field: Mul. (Laid by gen_mul.py over the operations of the function.) -/
namespace Go.Proofs.YtcmnecnbcohaeaaGreatDoor
open Go.RowKit
/-- what each slot of the great region of Mul has -/
def mulG (A B R : Nat) (x0 x1 x2 x3 x4 y0 y1 y2 y3 y4 z0 z1 z2 z3 S0 S1 S2 S3 S4 : Int) (r : Fe) : List (Value → World → Prop) := [
  fun _ _ => True,
  fun _ _ => True,
  fun _ _ => True,
  fun _ _ => True,
  fun _ _ => True,
  fun _ _ => True,
  fun _ _ => True,
  fun _ _ => True,
  fun _ _ => True,
  fun _ _ => True,
  fun _ _ => True,
  fun _ _ => True,
  fun _ _ => True,
  fun _ _ => True,
  fun _ _ => True,
  fun _ _ => True,
  fun _ _ => True,
  fun _ _ => True,
  fun _ _ => True,
  fun _ _ => True,
  fun _ _ => True,
  fun v _ => v = .pointer (some ⟨A, 0, none⟩),
  fun v _ => v = .int .u64 x0,
  fun v _ => v = .pointer (some ⟨B, 0, none⟩),
  fun v _ => v = .int .u64 y0,
  fun v _ => v = .agg #[.int .u64 x0, .int .u64 y0],
  fun v _ => v = .pointer (some ⟨A, 1, none⟩),
  fun v _ => v = .int .u64 x1,
  fun v _ => v = .int .u64 z3,
  fun v _ => v = .agg #[.int .u64 x1, .int .u64 z3],
  fun v _ => v = .pointer (some ⟨A, 2, none⟩),
  fun v _ => v = .int .u64 x2,
  fun v _ => v = .int .u64 z2,
  fun v _ => v = .agg #[.int .u64 x2, .int .u64 z2],
  fun v _ => v = .pointer (some ⟨A, 3, none⟩),
  fun v _ => v = .int .u64 x3,
  fun v _ => v = .int .u64 z1,
  fun v _ => v = .agg #[.int .u64 x3, .int .u64 z1],
  fun v _ => v = .pointer (some ⟨A, 4, none⟩),
  fun v _ => v = .int .u64 x4,
  fun v _ => v = .int .u64 z0,
  fun v _ => v = .agg #[.int .u64 x4, .int .u64 z0],
  fun v w => ∃ PB, PB ≠ R ∧ v = .slice (some ⟨PB, 0, none⟩) 5 5 ∧ Blk w PB 128 (flat [(x0, y0), (x1, z3), (x2, z2), (x3, z1), (x4, z0)]),
  fun v _ => v = .agg #[.int .u64 (S0 / 18446744073709551616), .int .u64 (S0 % 18446744073709551616)],
  fun v _ => v = .pointer (some ⟨A, 0, none⟩),
  fun v _ => v = .int .u64 x0,
  fun v _ => v = .pointer (some ⟨B, 1, none⟩),
  fun v _ => v = .int .u64 y1,
  fun v _ => v = .agg #[.int .u64 x0, .int .u64 y1],
  fun v _ => v = .pointer (some ⟨A, 1, none⟩),
  fun v _ => v = .int .u64 x1,
  fun v _ => v = .pointer (some ⟨B, 0, none⟩),
  fun v _ => v = .int .u64 y0,
  fun v _ => v = .agg #[.int .u64 x1, .int .u64 y0],
  fun v _ => v = .pointer (some ⟨A, 2, none⟩),
  fun v _ => v = .int .u64 x2,
  fun v _ => v = .int .u64 z3,
  fun v _ => v = .agg #[.int .u64 x2, .int .u64 z3],
  fun v _ => v = .pointer (some ⟨A, 3, none⟩),
  fun v _ => v = .int .u64 x3,
  fun v _ => v = .int .u64 z2,
  fun v _ => v = .agg #[.int .u64 x3, .int .u64 z2],
  fun v _ => v = .pointer (some ⟨A, 4, none⟩),
  fun v _ => v = .int .u64 x4,
  fun v _ => v = .int .u64 z1,
  fun v _ => v = .agg #[.int .u64 x4, .int .u64 z1],
  fun v w => ∃ PB, PB ≠ R ∧ v = .slice (some ⟨PB, 0, none⟩) 5 5 ∧ Blk w PB 128 (flat [(x0, y1), (x1, y0), (x2, z3), (x3, z2), (x4, z1)]),
  fun v _ => v = .agg #[.int .u64 (S1 / 18446744073709551616), .int .u64 (S1 % 18446744073709551616)],
  fun v _ => v = .pointer (some ⟨A, 0, none⟩),
  fun v _ => v = .int .u64 x0,
  fun v _ => v = .pointer (some ⟨B, 2, none⟩),
  fun v _ => v = .int .u64 y2,
  fun v _ => v = .agg #[.int .u64 x0, .int .u64 y2],
  fun v _ => v = .pointer (some ⟨A, 1, none⟩),
  fun v _ => v = .int .u64 x1,
  fun v _ => v = .pointer (some ⟨B, 1, none⟩),
  fun v _ => v = .int .u64 y1,
  fun v _ => v = .agg #[.int .u64 x1, .int .u64 y1],
  fun v _ => v = .pointer (some ⟨A, 2, none⟩),
  fun v _ => v = .int .u64 x2,
  fun v _ => v = .pointer (some ⟨B, 0, none⟩),
  fun v _ => v = .int .u64 y0,
  fun v _ => v = .agg #[.int .u64 x2, .int .u64 y0],
  fun v _ => v = .pointer (some ⟨A, 3, none⟩),
  fun v _ => v = .int .u64 x3,
  fun v _ => v = .int .u64 z3,
  fun v _ => v = .agg #[.int .u64 x3, .int .u64 z3],
  fun v _ => v = .pointer (some ⟨A, 4, none⟩),
  fun v _ => v = .int .u64 x4,
  fun v _ => v = .int .u64 z2,
  fun v _ => v = .agg #[.int .u64 x4, .int .u64 z2],
  fun v w => ∃ PB, PB ≠ R ∧ v = .slice (some ⟨PB, 0, none⟩) 5 5 ∧ Blk w PB 128 (flat [(x0, y2), (x1, y1), (x2, y0), (x3, z3), (x4, z2)]),
  fun v _ => v = .agg #[.int .u64 (S2 / 18446744073709551616), .int .u64 (S2 % 18446744073709551616)],
  fun v _ => v = .pointer (some ⟨A, 0, none⟩),
  fun v _ => v = .int .u64 x0,
  fun v _ => v = .pointer (some ⟨B, 3, none⟩),
  fun v _ => v = .int .u64 y3,
  fun v _ => v = .agg #[.int .u64 x0, .int .u64 y3],
  fun v _ => v = .pointer (some ⟨A, 1, none⟩),
  fun v _ => v = .int .u64 x1,
  fun v _ => v = .pointer (some ⟨B, 2, none⟩),
  fun v _ => v = .int .u64 y2,
  fun v _ => v = .agg #[.int .u64 x1, .int .u64 y2],
  fun v _ => v = .pointer (some ⟨A, 2, none⟩),
  fun v _ => v = .int .u64 x2,
  fun v _ => v = .pointer (some ⟨B, 1, none⟩),
  fun v _ => v = .int .u64 y1,
  fun v _ => v = .agg #[.int .u64 x2, .int .u64 y1],
  fun v _ => v = .pointer (some ⟨A, 3, none⟩),
  fun v _ => v = .int .u64 x3,
  fun v _ => v = .pointer (some ⟨B, 0, none⟩),
  fun v _ => v = .int .u64 y0,
  fun v _ => v = .agg #[.int .u64 x3, .int .u64 y0],
  fun v _ => v = .pointer (some ⟨A, 4, none⟩),
  fun v _ => v = .int .u64 x4,
  fun v _ => v = .int .u64 z3,
  fun v _ => v = .agg #[.int .u64 x4, .int .u64 z3],
  fun v w => ∃ PB, PB ≠ R ∧ v = .slice (some ⟨PB, 0, none⟩) 5 5 ∧ Blk w PB 128 (flat [(x0, y3), (x1, y2), (x2, y1), (x3, y0), (x4, z3)]),
  fun v _ => v = .agg #[.int .u64 (S3 / 18446744073709551616), .int .u64 (S3 % 18446744073709551616)],
  fun v _ => v = .pointer (some ⟨A, 0, none⟩),
  fun v _ => v = .int .u64 x0,
  fun v _ => v = .pointer (some ⟨B, 4, none⟩),
  fun v _ => v = .int .u64 y4,
  fun v _ => v = .agg #[.int .u64 x0, .int .u64 y4],
  fun v _ => v = .pointer (some ⟨A, 1, none⟩),
  fun v _ => v = .int .u64 x1,
  fun v _ => v = .pointer (some ⟨B, 3, none⟩),
  fun v _ => v = .int .u64 y3,
  fun v _ => v = .agg #[.int .u64 x1, .int .u64 y3],
  fun v _ => v = .pointer (some ⟨A, 2, none⟩),
  fun v _ => v = .int .u64 x2,
  fun v _ => v = .pointer (some ⟨B, 2, none⟩),
  fun v _ => v = .int .u64 y2,
  fun v _ => v = .agg #[.int .u64 x2, .int .u64 y2],
  fun v _ => v = .pointer (some ⟨A, 3, none⟩),
  fun v _ => v = .int .u64 x3,
  fun v _ => v = .pointer (some ⟨B, 1, none⟩),
  fun v _ => v = .int .u64 y1,
  fun v _ => v = .agg #[.int .u64 x3, .int .u64 y1],
  fun v _ => v = .pointer (some ⟨A, 4, none⟩),
  fun v _ => v = .int .u64 x4,
  fun v _ => v = .pointer (some ⟨B, 0, none⟩),
  fun v _ => v = .int .u64 y0,
  fun v _ => v = .agg #[.int .u64 x4, .int .u64 y0],
  fun v w => ∃ PB, PB ≠ R ∧ v = .slice (some ⟨PB, 0, none⟩) 5 5 ∧ Blk w PB 128 (flat [(x0, y4), (x1, y3), (x2, y2), (x3, y1), (x4, y0)]),
  fun v _ => v = .agg #[.int .u64 (S4 / 18446744073709551616), .int .u64 (S4 % 18446744073709551616)],
  fun v _ => v = .agg #[.int .u64 (S0 / 18446744073709551616), .int .u64 (S0 % 18446744073709551616), .int .u64 (S1 / 18446744073709551616), .int .u64 (S1 % 18446744073709551616), .int .u64 (S2 / 18446744073709551616), .int .u64 (S2 % 18446744073709551616), .int .u64 (S3 / 18446744073709551616), .int .u64 (S3 % 18446744073709551616), .int .u64 (S4 / 18446744073709551616), .int .u64 (S4 % 18446744073709551616)],
  fun v _ => v = r.v]
def mulAt (A B R : Nat) (x0 x1 x2 x3 x4 y0 y1 y2 y3 y4 z0 z1 z2 z3 S0 S1 S2 S3 S4 : Int) (r : Fe) (d : Nat) (v : Value) (w : World) : Prop := ((mulG A B R x0 x1 x2 x3 x4 y0 y1 y2 y3 y4 z0 z1 z2 z3 S0 S1 S2 S3 S4 r).getD d (fun _ _ => True)) v w
structure mulB (w0 : World) (A B R : Nat) (x0 x1 x2 x3 x4 y0 y1 y2 y3 y4 : Int) (w : World) : Prop where
  a : Blk w A 27 [.int .u64 x0, .int .u64 x1, .int .u64 x2, .int .u64 x3, .int .u64 x4]
  b : Blk w B 27 [.int .u64 y0, .int .u64 y1, .int .u64 y2, .int .u64 y3, .int .u64 y4]
  r : Room5 w R 27
  g : w0.grownBy w none
  ra : A ≠ R
  rb : B ≠ R
  rn : w0.heap.size ≤ R
theorem mulB.grown {w0 : World} {A B R : Nat} {x0 x1 x2 x3 x4 y0 y1 y2 y3 y4 : Int} {w w' : World} (h : mulB w0 A B R x0 x1 x2 x3 x4 y0 y1 y2 y3 y4 w) (hg : w.grownBy w' none) : mulB w0 A B R x0 x1 x2 x3 x4 y0 y1 y2 y3 y4 w' :=
  ⟨h.a.grown hg (by simp), h.b.grown hg (by simp), h.r.grown hg (by simp), gb_trans h.g hg, h.ra, h.rb, h.rn⟩
theorem mulB.alloc {w0 : World} {A B R : Nat} {x0 x1 x2 x3 x4 y0 y1 y2 y3 y4 : Int} {w : World} (h : mulB w0 A B R x0 x1 x2 x3 x4 y0 y1 y2 y3 y4 w) (o : Obj) : mulB w0 A B R x0 x1 x2 x3 x4 y0 y1 y2 y3 y4 (w.alloc o) := h.grown (World.grownBy_alloc _ _ _)
theorem mulB.set5 {w0 : World} {A B R : Nat} {x0 x1 x2 x3 x4 y0 y1 y2 y3 y4 : Int} {w : World} (h : mulB w0 A B R x0 x1 x2 x3 x4 y0 y1 y2 y3 y4 w) (v0 v1 v2 v3 v4 : Value) :
    mulB w0 A B R x0 x1 x2 x3 x4 y0 y1 y2 y3 y4 (((((w.setCell ⟨R, 0, none⟩ v0).setCell ⟨R, 1, none⟩ v1).setCell ⟨R, 2, none⟩ v2).setCell ⟨R, 3, none⟩ v3).setCell ⟨R, 4, none⟩ v4) :=
  ⟨((((h.a.other (Ne.symm h.ra) _).other (Ne.symm h.ra) _).other (Ne.symm h.ra) _).other (Ne.symm h.ra) _).other (Ne.symm h.ra) _,
   ((((h.b.other (Ne.symm h.rb) _).other (Ne.symm h.rb) _).other (Ne.symm h.rb) _).other (Ne.symm h.rb) _).other (Ne.symm h.rb) _,
   ⟨_, _, _, _, _, h.r.set5 v0 v1 v2 v3 v4⟩, gb_set_new (gb_set_new (gb_set_new (gb_set_new (gb_set_new h.g h.rn _) h.rn _) h.rn _) h.rn _) h.rn _, h.ra, h.rb, h.rn⟩

/-- each of the predicates stays, whatever is written to block R alone -/
def Stable (R : Nat) : List (Value → World → Prop) → Prop
  | [] => True
  | p :: r => (∀ v w w', World.grownBy w w' (some R) → p v w → p v w') ∧ Stable R r
theorem stable_get {R : Nat} (L : List (Value → World → Prop)) (h : Stable R L) (d : Nat) (u : Value) (w w' : World) (hR : w.grownBy w' (some R)) (hu : (L.getD d (fun _ _ => True)) u w) : (L.getD d (fun _ _ => True)) u w' := by
  induction L generalizing d with
  | nil => simp at hu ⊢
  | cons p r ih =>
    cases d with
    | zero => exact h.1 u w w' hR hu
    | succ d => exact ih h.2 d hu
theorem mul_stable (A B R : Nat) (x0 x1 x2 x3 x4 y0 y1 y2 y3 y4 z0 z1 z2 z3 S0 S1 S2 S3 S4 : Int) (r : Fe) (d : Nat) (u : Value) (w w' : World) (hR : w.grownBy w' (some R)) (h : mulAt A B R x0 x1 x2 x3 x4 y0 y1 y2 y3 y4 z0 z1 z2 z3 S0 S1 S2 S3 S4 r d u w) : mulAt A B R x0 x1 x2 x3 x4 y0 y1 y2 y3 y4 z0 z1 z2 z3 S0 S1 S2 S3 S4 r d u w' :=
  stable_get (R := R) _ (show Stable R (mulG A B R x0 x1 x2 x3 x4 y0 y1 y2 y3 y4 z0 z1 z2 z3 S0 S1 S2 S3 S4 r) from ⟨fun _ _ _ _ h => h, fun _ _ _ _ h => h, fun _ _ _ _ h => h, fun _ _ _ _ h => h, fun _ _ _ _ h => h, fun _ _ _ _ h => h, fun _ _ _ _ h => h, fun _ _ _ _ h => h, fun _ _ _ _ h => h, fun _ _ _ _ h => h, fun _ _ _ _ h => h, fun _ _ _ _ h => h, fun _ _ _ _ h => h, fun _ _ _ _ h => h, fun _ _ _ _ h => h, fun _ _ _ _ h => h, fun _ _ _ _ h => h, fun _ _ _ _ h => h, fun _ _ _ _ h => h, fun _ _ _ _ h => h, fun _ _ _ _ h => h, fun _ _ _ _ h => h, fun _ _ _ _ h => h, fun _ _ _ _ h => h, fun _ _ _ _ h => h, fun _ _ _ _ h => h, fun _ _ _ _ h => h, fun _ _ _ _ h => h, fun _ _ _ _ h => h, fun _ _ _ _ h => h, fun _ _ _ _ h => h, fun _ _ _ _ h => h, fun _ _ _ _ h => h, fun _ _ _ _ h => h, fun _ _ _ _ h => h, fun _ _ _ _ h => h, fun _ _ _ _ h => h, fun _ _ _ _ h => h, fun _ _ _ _ h => h, fun _ _ _ _ h => h, fun _ _ _ _ h => h, fun _ _ _ _ h => h, fun _ _ _ hR ⟨PB, hne, hv, hb⟩ => ⟨PB, hne, hv, hb.grown hR (some_ne hne)⟩, fun _ _ _ _ h => h, fun _ _ _ _ h => h, fun _ _ _ _ h => h, fun _ _ _ _ h => h, fun _ _ _ _ h => h, fun _ _ _ _ h => h, fun _ _ _ _ h => h, fun _ _ _ _ h => h, fun _ _ _ _ h => h, fun _ _ _ _ h => h, fun _ _ _ _ h => h, fun _ _ _ _ h => h, fun _ _ _ _ h => h, fun _ _ _ _ h => h, fun _ _ _ _ h => h, fun _ _ _ _ h => h, fun _ _ _ _ h => h, fun _ _ _ _ h => h, fun _ _ _ _ h => h, fun _ _ _ _ h => h, fun _ _ _ _ h => h, fun _ _ _ _ h => h, fun _ _ _ _ h => h, fun _ _ _ hR ⟨PB, hne, hv, hb⟩ => ⟨PB, hne, hv, hb.grown hR (some_ne hne)⟩, fun _ _ _ _ h => h, fun _ _ _ _ h => h, fun _ _ _ _ h => h, fun _ _ _ _ h => h, fun _ _ _ _ h => h, fun _ _ _ _ h => h, fun _ _ _ _ h => h, fun _ _ _ _ h => h, fun _ _ _ _ h => h, fun _ _ _ _ h => h, fun _ _ _ _ h => h, fun _ _ _ _ h => h, fun _ _ _ _ h => h, fun _ _ _ _ h => h, fun _ _ _ _ h => h, fun _ _ _ _ h => h, fun _ _ _ _ h => h, fun _ _ _ _ h => h, fun _ _ _ _ h => h, fun _ _ _ _ h => h, fun _ _ _ _ h => h, fun _ _ _ _ h => h, fun _ _ _ _ h => h, fun _ _ _ _ h => h, fun _ _ _ hR ⟨PB, hne, hv, hb⟩ => ⟨PB, hne, hv, hb.grown hR (some_ne hne)⟩, fun _ _ _ _ h => h, fun _ _ _ _ h => h, fun _ _ _ _ h => h, fun _ _ _ _ h => h, fun _ _ _ _ h => h, fun _ _ _ _ h => h, fun _ _ _ _ h => h, fun _ _ _ _ h => h, fun _ _ _ _ h => h, fun _ _ _ _ h => h, fun _ _ _ _ h => h, fun _ _ _ _ h => h, fun _ _ _ _ h => h, fun _ _ _ _ h => h, fun _ _ _ _ h => h, fun _ _ _ _ h => h, fun _ _ _ _ h => h, fun _ _ _ _ h => h, fun _ _ _ _ h => h, fun _ _ _ _ h => h, fun _ _ _ _ h => h, fun _ _ _ _ h => h, fun _ _ _ _ h => h, fun _ _ _ _ h => h, fun _ _ _ _ h => h, fun _ _ _ hR ⟨PB, hne, hv, hb⟩ => ⟨PB, hne, hv, hb.grown hR (some_ne hne)⟩, fun _ _ _ _ h => h, fun _ _ _ _ h => h, fun _ _ _ _ h => h, fun _ _ _ _ h => h, fun _ _ _ _ h => h, fun _ _ _ _ h => h, fun _ _ _ _ h => h, fun _ _ _ _ h => h, fun _ _ _ _ h => h, fun _ _ _ _ h => h, fun _ _ _ _ h => h, fun _ _ _ _ h => h, fun _ _ _ _ h => h, fun _ _ _ _ h => h, fun _ _ _ _ h => h, fun _ _ _ _ h => h, fun _ _ _ _ h => h, fun _ _ _ _ h => h, fun _ _ _ _ h => h, fun _ _ _ _ h => h, fun _ _ _ _ h => h, fun _ _ _ _ h => h, fun _ _ _ _ h => h, fun _ _ _ _ h => h, fun _ _ _ _ h => h, fun _ _ _ _ h => h, fun _ _ _ hR ⟨PB, hne, hv, hb⟩ => ⟨PB, hne, hv, hb.grown hR (some_ne hne)⟩, fun _ _ _ _ h => h, fun _ _ _ _ h => h, fun _ _ _ _ h => h, trivial⟩) d u w w' hR h

theorem join_sums (S0 S1 S2 S3 S4 : Int) (w : World) (h0 : Is128 S0) (h1 : Is128 S1) (h2 : Is128 S2) (h3 : Is128 S3) (h4 : Is128 S4) :
    Calls Tryz.prog 79 #[.agg #[.int .u64 (S0 / 18446744073709551616), .int .u64 (S0 % 18446744073709551616), .int .u64 (S1 / 18446744073709551616), .int .u64 (S1 % 18446744073709551616), .int .u64 (S2 / 18446744073709551616), .int .u64 (S2 % 18446744073709551616), .int .u64 (S3 / 18446744073709551616), .int .u64 (S3 % 18446744073709551616), .int .u64 (S4 / 18446744073709551616), .int .u64 (S4 % 18446744073709551616)]] w fun e w' => e = .returned (Fe.joinF S0 S1 S2 S3 S4).v ∧ w.grownBy w' none := by
  obtain ⟨n0, l0⟩ := h0
  obtain ⟨n1, l1⟩ := h1
  obtain ⟨n2, l2⟩ := h2
  obtain ⟨n3, l3⟩ := h3
  obtain ⟨n4, l4⟩ := h4
  have := fjoin_any (S0 / 18446744073709551616) (S0 % 18446744073709551616) (S1 / 18446744073709551616) (S1 % 18446744073709551616) (S2 / 18446744073709551616) (S2 % 18446744073709551616) (S3 / 18446744073709551616) (S3 % 18446744073709551616) (S4 / 18446744073709551616) (S4 % 18446744073709551616) w
    (by omega) (by omega) (by omega) (by omega) (by omega) (by omega) (by omega) (by omega) (by omega) (by omega) (by omega) (by omega) (by omega) (by omega) (by omega) (by omega) (by omega) (by omega) (by omega) (by omega)
  simpa only [halves] using this

set_option maxRecDepth 100000 in
set_option maxHeartbeats 4000000 in
theorem mul_any (x0 x1 x2 x3 x4 y0 y1 y2 y3 y4 : Int) (w : World) (a0 : 0 ≤ x0) (c0 : x0 < 18446744073709551616) (a1 : 0 ≤ x1) (c1 : x1 < 18446744073709551616) (a2 : 0 ≤ x2) (c2 : x2 < 18446744073709551616) (a3 : 0 ≤ x3) (c3 : x3 < 18446744073709551616) (a4 : 0 ≤ x4) (c4 : x4 < 18446744073709551616) (b0 : 0 ≤ y0) (d0 : y0 < 18446744073709551616) (b1 : 0 ≤ y1) (d1 : y1 < 18446744073709551616) (b2 : 0 ≤ y2) (d2 : y2 < 18446744073709551616) (b3 : 0 ≤ y3) (d3 : y3 < 18446744073709551616) (b4 : 0 ≤ y4) (d4 : y4 < 18446744073709551616) :
    Calls Tryz.prog 35 #[.agg #[.int .u64 x0, .int .u64 x1, .int .u64 x2, .int .u64 x3, .int .u64 x4], .agg #[.int .u64 y0, .int .u64 y1, .int .u64 y2, .int .u64 y3, .int .u64 y4]] w (FeOut (Fe.mulF ⟨x0, x1, x2, x3, x4⟩ ⟨y0, y1, y2, y3, y4⟩) w) := by
  obtain ⟨z0, hz0⟩ : ∃ z, IntKind.u64.wrap (19 * y1) = z := ⟨_, rfl⟩
  have pz0 : 0 ≤ z0 := by rw [← hz0, wrapw]; unfold Fe.w64; omega
  have qz0 : z0 < 18446744073709551616 := by rw [← hz0, wrapw]; unfold Fe.w64; omega
  obtain ⟨z1, hz1⟩ : ∃ z, IntKind.u64.wrap (19 * y2) = z := ⟨_, rfl⟩
  have pz1 : 0 ≤ z1 := by rw [← hz1, wrapw]; unfold Fe.w64; omega
  have qz1 : z1 < 18446744073709551616 := by rw [← hz1, wrapw]; unfold Fe.w64; omega
  obtain ⟨z2, hz2⟩ : ∃ z, IntKind.u64.wrap (19 * y3) = z := ⟨_, rfl⟩
  have pz2 : 0 ≤ z2 := by rw [← hz2, wrapw]; unfold Fe.w64; omega
  have qz2 : z2 < 18446744073709551616 := by rw [← hz2, wrapw]; unfold Fe.w64; omega
  obtain ⟨z3, hz3⟩ : ∃ z, IntKind.u64.wrap (19 * y4) = z := ⟨_, rfl⟩
  have pz3 : 0 ≤ z3 := by rw [← hz3, wrapw]; unfold Fe.w64; omega
  have qz3 : z3 < 18446744073709551616 := by rw [← hz3, wrapw]; unfold Fe.w64; omega
  obtain ⟨S0, hS0⟩ : ∃ S, sumL [(x0, y0), (x1, z3), (x2, z2), (x3, z1), (x4, z0)] = S := ⟨_, rfl⟩
  obtain ⟨S1, hS1⟩ : ∃ S, sumL [(x0, y1), (x1, y0), (x2, z3), (x3, z2), (x4, z1)] = S := ⟨_, rfl⟩
  obtain ⟨S2, hS2⟩ : ∃ S, sumL [(x0, y2), (x1, y1), (x2, y0), (x3, z3), (x4, z2)] = S := ⟨_, rfl⟩
  obtain ⟨S3, hS3⟩ : ∃ S, sumL [(x0, y3), (x1, y2), (x2, y1), (x3, y0), (x4, z3)] = S := ⟨_, rfl⟩
  obtain ⟨S4, hS4⟩ : ∃ S, sumL [(x0, y4), (x1, y3), (x2, y2), (x3, y1), (x4, y0)] = S := ⟨_, rfl⟩
  obtain ⟨r, hr⟩ : ∃ r, r = Fe.joinF S0 S1 S2 S3 S4 := ⟨_, rfl⟩
  have HS0 := Lib.hid hS0; clear hS0
  have HS1 := Lib.hid hS1; clear hS1
  have HS2 := Lib.hid hS2; clear hS2
  have HS3 := Lib.hid hS3; clear hS3
  have HS4 := Lib.hid hS4; clear hS4
  have Hr := Lib.hid hr; clear hr
  have iS0 : Is128 S0 := by rw [← HS0.out]; exact ⟨(sumL_bd _).1, (sumL_bd _).2⟩
  have iS1 : Is128 S1 := by rw [← HS1.out]; exact ⟨(sumL_bd _).1, (sumL_bd _).2⟩
  have iS2 : Is128 S2 := by rw [← HS2.out]; exact ⟨(sumL_bd _).1, (sumL_bd _).2⟩
  have iS3 : Is128 S3 := by rw [← HS3.out]; exact ⟨(sumL_bd _).1, (sumL_bd _).2⟩
  have iS4 : Is128 S4 := by rw [← HS4.out]; exact ⟨(sumL_bd _).1, (sumL_bd _).2⟩
  have Hz0 := Lib.hid hz0; clear hz0
  have Hz1 := Lib.hid hz1; clear hz1
  have Hz2 := Lib.hid hz2; clear hz2
  have Hz3 := Lib.hid hz3; clear hz3
  go_enter Tryz.func35, Tryz.ntmps35
  have hB0 : mulB w w.heap.size (w.heap.size + 1) (w.heap.size + 1 + 1) x0 x1 x2 x3 x4 y0 y1 y2 y3 y4 (((w.alloc (.cells #[.int .u64 x0, .int .u64 x1, .int .u64 x2, .int .u64 x3, .int .u64 x4] 27)).alloc (.cells #[.int .u64 y0, .int .u64 y1, .int .u64 y2, .int .u64 y3, .int .u64 y4] 27)).alloc (.cells #[.int .u64 0, .int .u64 0, .int .u64 0, .int .u64 0, .int .u64 0] 27)) :=
    ⟨((Blk.new w [.int .u64 x0, .int .u64 x1, .int .u64 x2, .int .u64 x3, .int .u64 x4] _).alloc _).alloc _, (Blk.newAt (w.alloc _) [.int .u64 y0, .int .u64 y1, .int .u64 y2, .int .u64 y3, .int .u64 y4] _ (by simp)).alloc _, ⟨_, _, _, _, _, Blk.newAt _ [.int .u64 0, .int .u64 0, .int .u64 0, .int .u64 0, .int .u64 0] _ (by simp)⟩, gb_alloc (gb_alloc (gb_alloc (gb_refl _ _) _) _) _, by omega, by omega, by omega⟩
  go_wp2
  go_quiet (fail)
  go_wp2
  have hB1 := (hB0.grown (gb_drewN (gb_refl _ none) nq)).grown (gb_drew (gb_refl _ none))
  clear hB0
  refine wp_region_flow (mulAt w.heap.size (w.heap.size + 1) (w.heap.size + 1 + 1) x0 x1 x2 x3 x4 y0 y1 y2 y3 y4 z0 z1 z2 z3 S0 S1 S2 S3 S4 r) (fun _ w' => Blk w' (w.heap.size + 1 + 1) 27 [.int .u64 r.x0, .int .u64 r.x1, .int .u64 r.x2, .int .u64 r.x3, .int .u64 r.x4])
    (mulB w w.heap.size (w.heap.size + 1) (w.heap.size + 1 + 1) x0 x1 x2 x3 x4 y0 y1 y2 y3 y4) (fun w' w'' => w'.grownBy w'' none ∨ (w'.grownBy w'' (some (w.heap.size + 1 + 1)) ∧ Blk w'' (w.heap.size + 1 + 1) 27 [.int .u64 r.x0, .int .u64 r.x1, .int .u64 r.x2, .int .u64 r.x3, .int .u64 r.x4])) (by kernel_rfl) (by kernel_rfl) (by kernel_rfl) hB1 ?_ ?_ ?_ ?_
  · exact fun d u w1 w2 hR h => mul_stable _ _ _ _ _ _ _ _ _ _ _ _ _ _ _ _ _ _ _ _ _ _ r d u w1 w2 (hR.elim (fun h => gb_row h _) (fun h => h.1)) h
  · exact fun j w1 w2 hR h => hR.elim (fun hg => h.grown hg (by simp)) (fun h => h.2)
  · clear hB1
    generalize w.heap.size = A
    generalize eB : A + 1 = B
    generalize eR : B + 1 = R
    refine ⟨flow_value rfl rfl fun a w h => ?_, ?_⟩
    · have e2 : a.tmps.getD 2 undef = .pointer (some ⟨A, 0, none⟩) := h.rest 2 (by kernel_rfl)
      refine ⟨.pointer (some ⟨A, 0, none⟩), w, ?_, h.base, Or.inl (gb_refl _ _), rfl⟩
      clear h
      simp only [execOp, Act.eval, e2]
      go_simp
    refine ⟨flow_value rfl rfl fun a w h => ?_, ?_⟩
    · have e21 : a.tmps.getD 21 undef = .pointer (some ⟨A, 0, none⟩) := h.dep 21 (by kernel_rfl)
      have c := h.base.a.cell (i := 0) rfl
      refine ⟨.int .u64 x0, w, ?_, h.base, Or.inl (gb_refl _ _), rfl⟩
      clear h
      simp only [execOp, Act.eval, e21]
      go_simp
    refine ⟨flow_value rfl rfl fun a w h => ?_, ?_⟩
    · have e3 : a.tmps.getD 3 undef = .pointer (some ⟨B, 0, none⟩) := h.rest 3 (by kernel_rfl)
      refine ⟨.pointer (some ⟨B, 0, none⟩), w, ?_, h.base, Or.inl (gb_refl _ _), rfl⟩
      clear h
      simp only [execOp, Act.eval, e3]
      go_simp
    refine ⟨flow_value rfl rfl fun a w h => ?_, ?_⟩
    · have e23 : a.tmps.getD 23 undef = .pointer (some ⟨B, 0, none⟩) := h.dep 23 (by kernel_rfl)
      have c := h.base.b.cell (i := 0) rfl
      refine ⟨.int .u64 y0, w, ?_, h.base, Or.inl (gb_refl _ _), rfl⟩
      clear h
      simp only [execOp, Act.eval, e23]
      go_simp
    refine ⟨flow_value rfl rfl fun a w h => ?_, ?_⟩
    · have e22 : a.tmps.getD 22 undef = .int .u64 x0 := h.dep 22 (by kernel_rfl)
      have e24 : a.tmps.getD 24 undef = .int .u64 y0 := h.dep 24 (by kernel_rfl)
      refine ⟨.agg #[.int .u64 x0, .int .u64 y0], w, ?_, h.base, Or.inl (gb_refl _ _), rfl⟩
      clear h
      simp only [execOp, List.map_toArray, List.map_cons, List.map_nil, Act.eval, e22, e24]
      go_simp
    refine ⟨flow_value rfl rfl fun a w h => ?_, ?_⟩
    · have e2 : a.tmps.getD 2 undef = .pointer (some ⟨A, 0, none⟩) := h.rest 2 (by kernel_rfl)
      refine ⟨.pointer (some ⟨A, 1, none⟩), w, ?_, h.base, Or.inl (gb_refl _ _), rfl⟩
      clear h
      simp only [execOp, Act.eval, e2]
      go_simp
    refine ⟨flow_value rfl rfl fun a w h => ?_, ?_⟩
    · have e26 : a.tmps.getD 26 undef = .pointer (some ⟨A, 1, none⟩) := h.dep 26 (by kernel_rfl)
      have c := h.base.a.cell (i := 1) rfl
      refine ⟨.int .u64 x1, w, ?_, h.base, Or.inl (gb_refl _ _), rfl⟩
      clear h
      simp only [execOp, Act.eval, e26]
      go_simp
    refine ⟨flow_value rfl rfl fun a w h => ?_, ?_⟩
    · have e8 : a.tmps.getD 8 undef = .int .u64 z3 := (h.rest 8 (by kernel_rfl)).trans (congrArg (Value.int .u64) Hz3.out)
      refine ⟨.int .u64 z3, w, ?_, h.base, Or.inl (gb_refl _ _), rfl⟩
      clear h
      simp only [execOp, Act.eval, e8]
      go_simp
    refine ⟨flow_value rfl rfl fun a w h => ?_, ?_⟩
    · have e27 : a.tmps.getD 27 undef = .int .u64 x1 := h.dep 27 (by kernel_rfl)
      have e28 : a.tmps.getD 28 undef = .int .u64 z3 := h.dep 28 (by kernel_rfl)
      refine ⟨.agg #[.int .u64 x1, .int .u64 z3], w, ?_, h.base, Or.inl (gb_refl _ _), rfl⟩
      clear h
      simp only [execOp, List.map_toArray, List.map_cons, List.map_nil, Act.eval, e27, e28]
      go_simp
    refine ⟨flow_value rfl rfl fun a w h => ?_, ?_⟩
    · have e2 : a.tmps.getD 2 undef = .pointer (some ⟨A, 0, none⟩) := h.rest 2 (by kernel_rfl)
      refine ⟨.pointer (some ⟨A, 2, none⟩), w, ?_, h.base, Or.inl (gb_refl _ _), rfl⟩
      clear h
      simp only [execOp, Act.eval, e2]
      go_simp
    refine ⟨flow_value rfl rfl fun a w h => ?_, ?_⟩
    · have e30 : a.tmps.getD 30 undef = .pointer (some ⟨A, 2, none⟩) := h.dep 30 (by kernel_rfl)
      have c := h.base.a.cell (i := 2) rfl
      refine ⟨.int .u64 x2, w, ?_, h.base, Or.inl (gb_refl _ _), rfl⟩
      clear h
      simp only [execOp, Act.eval, e30]
      go_simp
    refine ⟨flow_value rfl rfl fun a w h => ?_, ?_⟩
    · have e7 : a.tmps.getD 7 undef = .int .u64 z2 := (h.rest 7 (by kernel_rfl)).trans (congrArg (Value.int .u64) Hz2.out)
      refine ⟨.int .u64 z2, w, ?_, h.base, Or.inl (gb_refl _ _), rfl⟩
      clear h
      simp only [execOp, Act.eval, e7]
      go_simp
    refine ⟨flow_value rfl rfl fun a w h => ?_, ?_⟩
    · have e31 : a.tmps.getD 31 undef = .int .u64 x2 := h.dep 31 (by kernel_rfl)
      have e32 : a.tmps.getD 32 undef = .int .u64 z2 := h.dep 32 (by kernel_rfl)
      refine ⟨.agg #[.int .u64 x2, .int .u64 z2], w, ?_, h.base, Or.inl (gb_refl _ _), rfl⟩
      clear h
      simp only [execOp, List.map_toArray, List.map_cons, List.map_nil, Act.eval, e31, e32]
      go_simp
    refine ⟨flow_value rfl rfl fun a w h => ?_, ?_⟩
    · have e2 : a.tmps.getD 2 undef = .pointer (some ⟨A, 0, none⟩) := h.rest 2 (by kernel_rfl)
      refine ⟨.pointer (some ⟨A, 3, none⟩), w, ?_, h.base, Or.inl (gb_refl _ _), rfl⟩
      clear h
      simp only [execOp, Act.eval, e2]
      go_simp
    refine ⟨flow_value rfl rfl fun a w h => ?_, ?_⟩
    · have e34 : a.tmps.getD 34 undef = .pointer (some ⟨A, 3, none⟩) := h.dep 34 (by kernel_rfl)
      have c := h.base.a.cell (i := 3) rfl
      refine ⟨.int .u64 x3, w, ?_, h.base, Or.inl (gb_refl _ _), rfl⟩
      clear h
      simp only [execOp, Act.eval, e34]
      go_simp
    refine ⟨flow_value rfl rfl fun a w h => ?_, ?_⟩
    · have e6 : a.tmps.getD 6 undef = .int .u64 z1 := (h.rest 6 (by kernel_rfl)).trans (congrArg (Value.int .u64) Hz1.out)
      refine ⟨.int .u64 z1, w, ?_, h.base, Or.inl (gb_refl _ _), rfl⟩
      clear h
      simp only [execOp, Act.eval, e6]
      go_simp
    refine ⟨flow_value rfl rfl fun a w h => ?_, ?_⟩
    · have e35 : a.tmps.getD 35 undef = .int .u64 x3 := h.dep 35 (by kernel_rfl)
      have e36 : a.tmps.getD 36 undef = .int .u64 z1 := h.dep 36 (by kernel_rfl)
      refine ⟨.agg #[.int .u64 x3, .int .u64 z1], w, ?_, h.base, Or.inl (gb_refl _ _), rfl⟩
      clear h
      simp only [execOp, List.map_toArray, List.map_cons, List.map_nil, Act.eval, e35, e36]
      go_simp
    refine ⟨flow_value rfl rfl fun a w h => ?_, ?_⟩
    · have e2 : a.tmps.getD 2 undef = .pointer (some ⟨A, 0, none⟩) := h.rest 2 (by kernel_rfl)
      refine ⟨.pointer (some ⟨A, 4, none⟩), w, ?_, h.base, Or.inl (gb_refl _ _), rfl⟩
      clear h
      simp only [execOp, Act.eval, e2]
      go_simp
    refine ⟨flow_value rfl rfl fun a w h => ?_, ?_⟩
    · have e38 : a.tmps.getD 38 undef = .pointer (some ⟨A, 4, none⟩) := h.dep 38 (by kernel_rfl)
      have c := h.base.a.cell (i := 4) rfl
      refine ⟨.int .u64 x4, w, ?_, h.base, Or.inl (gb_refl _ _), rfl⟩
      clear h
      simp only [execOp, Act.eval, e38]
      go_simp
    refine ⟨flow_value rfl rfl fun a w h => ?_, ?_⟩
    · have e5 : a.tmps.getD 5 undef = .int .u64 z0 := (h.rest 5 (by kernel_rfl)).trans (congrArg (Value.int .u64) Hz0.out)
      refine ⟨.int .u64 z0, w, ?_, h.base, Or.inl (gb_refl _ _), rfl⟩
      clear h
      simp only [execOp, Act.eval, e5]
      go_simp
    refine ⟨flow_value rfl rfl fun a w h => ?_, ?_⟩
    · have e39 : a.tmps.getD 39 undef = .int .u64 x4 := h.dep 39 (by kernel_rfl)
      have e40 : a.tmps.getD 40 undef = .int .u64 z0 := h.dep 40 (by kernel_rfl)
      refine ⟨.agg #[.int .u64 x4, .int .u64 z0], w, ?_, h.base, Or.inl (gb_refl _ _), rfl⟩
      clear h
      simp only [execOp, List.map_toArray, List.map_cons, List.map_nil, Act.eval, e39, e40]
      go_simp
    refine ⟨flow_value rfl rfl fun a w h => ?_, ?_⟩
    · have e25 : a.tmps.getD 25 undef = .agg #[.int .u64 x0, .int .u64 y0] := h.dep 25 (by kernel_rfl)
      have e29 : a.tmps.getD 29 undef = .agg #[.int .u64 x1, .int .u64 z3] := h.dep 29 (by kernel_rfl)
      have e33 : a.tmps.getD 33 undef = .agg #[.int .u64 x2, .int .u64 z2] := h.dep 33 (by kernel_rfl)
      have e37 : a.tmps.getD 37 undef = .agg #[.int .u64 x3, .int .u64 z1] := h.dep 37 (by kernel_rfl)
      have e41 : a.tmps.getD 41 undef = .agg #[.int .u64 x4, .int .u64 z0] := h.dep 41 (by kernel_rfl)
      obtain ⟨_, _, _, _, _, hr5⟩ := h.base.r
      have hs := hr5.lt
      refine ⟨.slice (some ⟨w.heap.size, 0, none⟩) 5 5, w.alloc (.cells #[.int .u64 x0, .int .u64 y0, .int .u64 x1, .int .u64 z3, .int .u64 x2, .int .u64 z2, .int .u64 x3, .int .u64 z1, .int .u64 x4, .int .u64 z0] 128), ?_, h.base.alloc _, Or.inl (World.grownBy_alloc _ _ _), ⟨w.heap.size, by omega, rfl, Blk.new w _ _⟩⟩
      clear h
      simp only [execOp, List.map_toArray, List.map_cons, List.map_nil, Act.eval, e25, e29, e33, e37, e41]
      go_simp
    refine ⟨flow_call rfl rfl fun a w h => ?_, ?_⟩
    · obtain ⟨PB, hne, e42, hP⟩ : ∃ PB, PB ≠ R ∧ a.tmps.getD 42 undef = .slice (some ⟨PB, 0, none⟩) 5 5 ∧ Blk w PB 128 (flat [(x0, y0), (x1, z3), (x2, z2), (x3, z1), (x4, z0)]) := h.dep 42 (by kernel_rfl)
      have hb := h.base
      refine ⟨80, #[.slice (some ⟨PB, 0, none⟩) 5 5], ?_, ?_⟩
      · clear h hb hP
        have e42x : a.tmps[42]?.getD undef = .slice (some ⟨PB, 0, none⟩) 5 5 := by simpa using e42
        clear e42
        go_simp
      · refine (sumUp_any PB 5 _ w _ rfl (by decide) hP ?_).mono ?_
        · intro p hp; simp only [List.mem_cons, List.not_mem_nil, or_false] at hp; rcases hp with rfl | rfl | rfl | rfl | rfl <;> exact ⟨by assumption, by assumption, by assumption, by assumption⟩
        · rintro e w1 ⟨rfl, hg⟩; exact ⟨_, rfl, hb.grown hg, Or.inl hg, by show sumV _ = _; rw [HS0.out]; rfl⟩
    refine ⟨flow_value rfl rfl fun a w h => ?_, ?_⟩
    · have e2 : a.tmps.getD 2 undef = .pointer (some ⟨A, 0, none⟩) := h.rest 2 (by kernel_rfl)
      refine ⟨.pointer (some ⟨A, 0, none⟩), w, ?_, h.base, Or.inl (gb_refl _ _), rfl⟩
      clear h
      simp only [execOp, Act.eval, e2]
      go_simp
    refine ⟨flow_value rfl rfl fun a w h => ?_, ?_⟩
    · have e44 : a.tmps.getD 44 undef = .pointer (some ⟨A, 0, none⟩) := h.dep 44 (by kernel_rfl)
      have c := h.base.a.cell (i := 0) rfl
      refine ⟨.int .u64 x0, w, ?_, h.base, Or.inl (gb_refl _ _), rfl⟩
      clear h
      simp only [execOp, Act.eval, e44]
      go_simp
    refine ⟨flow_value rfl rfl fun a w h => ?_, ?_⟩
    · have e3 : a.tmps.getD 3 undef = .pointer (some ⟨B, 0, none⟩) := h.rest 3 (by kernel_rfl)
      refine ⟨.pointer (some ⟨B, 1, none⟩), w, ?_, h.base, Or.inl (gb_refl _ _), rfl⟩
      clear h
      simp only [execOp, Act.eval, e3]
      go_simp
    refine ⟨flow_value rfl rfl fun a w h => ?_, ?_⟩
    · have e46 : a.tmps.getD 46 undef = .pointer (some ⟨B, 1, none⟩) := h.dep 46 (by kernel_rfl)
      have c := h.base.b.cell (i := 1) rfl
      refine ⟨.int .u64 y1, w, ?_, h.base, Or.inl (gb_refl _ _), rfl⟩
      clear h
      simp only [execOp, Act.eval, e46]
      go_simp
    refine ⟨flow_value rfl rfl fun a w h => ?_, ?_⟩
    · have e45 : a.tmps.getD 45 undef = .int .u64 x0 := h.dep 45 (by kernel_rfl)
      have e47 : a.tmps.getD 47 undef = .int .u64 y1 := h.dep 47 (by kernel_rfl)
      refine ⟨.agg #[.int .u64 x0, .int .u64 y1], w, ?_, h.base, Or.inl (gb_refl _ _), rfl⟩
      clear h
      simp only [execOp, List.map_toArray, List.map_cons, List.map_nil, Act.eval, e45, e47]
      go_simp
    refine ⟨flow_value rfl rfl fun a w h => ?_, ?_⟩
    · have e2 : a.tmps.getD 2 undef = .pointer (some ⟨A, 0, none⟩) := h.rest 2 (by kernel_rfl)
      refine ⟨.pointer (some ⟨A, 1, none⟩), w, ?_, h.base, Or.inl (gb_refl _ _), rfl⟩
      clear h
      simp only [execOp, Act.eval, e2]
      go_simp
    refine ⟨flow_value rfl rfl fun a w h => ?_, ?_⟩
    · have e49 : a.tmps.getD 49 undef = .pointer (some ⟨A, 1, none⟩) := h.dep 49 (by kernel_rfl)
      have c := h.base.a.cell (i := 1) rfl
      refine ⟨.int .u64 x1, w, ?_, h.base, Or.inl (gb_refl _ _), rfl⟩
      clear h
      simp only [execOp, Act.eval, e49]
      go_simp
    refine ⟨flow_value rfl rfl fun a w h => ?_, ?_⟩
    · have e3 : a.tmps.getD 3 undef = .pointer (some ⟨B, 0, none⟩) := h.rest 3 (by kernel_rfl)
      refine ⟨.pointer (some ⟨B, 0, none⟩), w, ?_, h.base, Or.inl (gb_refl _ _), rfl⟩
      clear h
      simp only [execOp, Act.eval, e3]
      go_simp
    refine ⟨flow_value rfl rfl fun a w h => ?_, ?_⟩
    · have e51 : a.tmps.getD 51 undef = .pointer (some ⟨B, 0, none⟩) := h.dep 51 (by kernel_rfl)
      have c := h.base.b.cell (i := 0) rfl
      refine ⟨.int .u64 y0, w, ?_, h.base, Or.inl (gb_refl _ _), rfl⟩
      clear h
      simp only [execOp, Act.eval, e51]
      go_simp
    refine ⟨flow_value rfl rfl fun a w h => ?_, ?_⟩
    · have e50 : a.tmps.getD 50 undef = .int .u64 x1 := h.dep 50 (by kernel_rfl)
      have e52 : a.tmps.getD 52 undef = .int .u64 y0 := h.dep 52 (by kernel_rfl)
      refine ⟨.agg #[.int .u64 x1, .int .u64 y0], w, ?_, h.base, Or.inl (gb_refl _ _), rfl⟩
      clear h
      simp only [execOp, List.map_toArray, List.map_cons, List.map_nil, Act.eval, e50, e52]
      go_simp
    refine ⟨flow_value rfl rfl fun a w h => ?_, ?_⟩
    · have e2 : a.tmps.getD 2 undef = .pointer (some ⟨A, 0, none⟩) := h.rest 2 (by kernel_rfl)
      refine ⟨.pointer (some ⟨A, 2, none⟩), w, ?_, h.base, Or.inl (gb_refl _ _), rfl⟩
      clear h
      simp only [execOp, Act.eval, e2]
      go_simp
    refine ⟨flow_value rfl rfl fun a w h => ?_, ?_⟩
    · have e54 : a.tmps.getD 54 undef = .pointer (some ⟨A, 2, none⟩) := h.dep 54 (by kernel_rfl)
      have c := h.base.a.cell (i := 2) rfl
      refine ⟨.int .u64 x2, w, ?_, h.base, Or.inl (gb_refl _ _), rfl⟩
      clear h
      simp only [execOp, Act.eval, e54]
      go_simp
    refine ⟨flow_value rfl rfl fun a w h => ?_, ?_⟩
    · have e8 : a.tmps.getD 8 undef = .int .u64 z3 := (h.rest 8 (by kernel_rfl)).trans (congrArg (Value.int .u64) Hz3.out)
      refine ⟨.int .u64 z3, w, ?_, h.base, Or.inl (gb_refl _ _), rfl⟩
      clear h
      simp only [execOp, Act.eval, e8]
      go_simp
    refine ⟨flow_value rfl rfl fun a w h => ?_, ?_⟩
    · have e55 : a.tmps.getD 55 undef = .int .u64 x2 := h.dep 55 (by kernel_rfl)
      have e56 : a.tmps.getD 56 undef = .int .u64 z3 := h.dep 56 (by kernel_rfl)
      refine ⟨.agg #[.int .u64 x2, .int .u64 z3], w, ?_, h.base, Or.inl (gb_refl _ _), rfl⟩
      clear h
      simp only [execOp, List.map_toArray, List.map_cons, List.map_nil, Act.eval, e55, e56]
      go_simp
    refine ⟨flow_value rfl rfl fun a w h => ?_, ?_⟩
    · have e2 : a.tmps.getD 2 undef = .pointer (some ⟨A, 0, none⟩) := h.rest 2 (by kernel_rfl)
      refine ⟨.pointer (some ⟨A, 3, none⟩), w, ?_, h.base, Or.inl (gb_refl _ _), rfl⟩
      clear h
      simp only [execOp, Act.eval, e2]
      go_simp
    refine ⟨flow_value rfl rfl fun a w h => ?_, ?_⟩
    · have e58 : a.tmps.getD 58 undef = .pointer (some ⟨A, 3, none⟩) := h.dep 58 (by kernel_rfl)
      have c := h.base.a.cell (i := 3) rfl
      refine ⟨.int .u64 x3, w, ?_, h.base, Or.inl (gb_refl _ _), rfl⟩
      clear h
      simp only [execOp, Act.eval, e58]
      go_simp
    refine ⟨flow_value rfl rfl fun a w h => ?_, ?_⟩
    · have e7 : a.tmps.getD 7 undef = .int .u64 z2 := (h.rest 7 (by kernel_rfl)).trans (congrArg (Value.int .u64) Hz2.out)
      refine ⟨.int .u64 z2, w, ?_, h.base, Or.inl (gb_refl _ _), rfl⟩
      clear h
      simp only [execOp, Act.eval, e7]
      go_simp
    refine ⟨flow_value rfl rfl fun a w h => ?_, ?_⟩
    · have e59 : a.tmps.getD 59 undef = .int .u64 x3 := h.dep 59 (by kernel_rfl)
      have e60 : a.tmps.getD 60 undef = .int .u64 z2 := h.dep 60 (by kernel_rfl)
      refine ⟨.agg #[.int .u64 x3, .int .u64 z2], w, ?_, h.base, Or.inl (gb_refl _ _), rfl⟩
      clear h
      simp only [execOp, List.map_toArray, List.map_cons, List.map_nil, Act.eval, e59, e60]
      go_simp
    refine ⟨flow_value rfl rfl fun a w h => ?_, ?_⟩
    · have e2 : a.tmps.getD 2 undef = .pointer (some ⟨A, 0, none⟩) := h.rest 2 (by kernel_rfl)
      refine ⟨.pointer (some ⟨A, 4, none⟩), w, ?_, h.base, Or.inl (gb_refl _ _), rfl⟩
      clear h
      simp only [execOp, Act.eval, e2]
      go_simp
    refine ⟨flow_value rfl rfl fun a w h => ?_, ?_⟩
    · have e62 : a.tmps.getD 62 undef = .pointer (some ⟨A, 4, none⟩) := h.dep 62 (by kernel_rfl)
      have c := h.base.a.cell (i := 4) rfl
      refine ⟨.int .u64 x4, w, ?_, h.base, Or.inl (gb_refl _ _), rfl⟩
      clear h
      simp only [execOp, Act.eval, e62]
      go_simp
    refine ⟨flow_value rfl rfl fun a w h => ?_, ?_⟩
    · have e6 : a.tmps.getD 6 undef = .int .u64 z1 := (h.rest 6 (by kernel_rfl)).trans (congrArg (Value.int .u64) Hz1.out)
      refine ⟨.int .u64 z1, w, ?_, h.base, Or.inl (gb_refl _ _), rfl⟩
      clear h
      simp only [execOp, Act.eval, e6]
      go_simp
    refine ⟨flow_value rfl rfl fun a w h => ?_, ?_⟩
    · have e63 : a.tmps.getD 63 undef = .int .u64 x4 := h.dep 63 (by kernel_rfl)
      have e64 : a.tmps.getD 64 undef = .int .u64 z1 := h.dep 64 (by kernel_rfl)
      refine ⟨.agg #[.int .u64 x4, .int .u64 z1], w, ?_, h.base, Or.inl (gb_refl _ _), rfl⟩
      clear h
      simp only [execOp, List.map_toArray, List.map_cons, List.map_nil, Act.eval, e63, e64]
      go_simp
    refine ⟨flow_value rfl rfl fun a w h => ?_, ?_⟩
    · have e48 : a.tmps.getD 48 undef = .agg #[.int .u64 x0, .int .u64 y1] := h.dep 48 (by kernel_rfl)
      have e53 : a.tmps.getD 53 undef = .agg #[.int .u64 x1, .int .u64 y0] := h.dep 53 (by kernel_rfl)
      have e57 : a.tmps.getD 57 undef = .agg #[.int .u64 x2, .int .u64 z3] := h.dep 57 (by kernel_rfl)
      have e61 : a.tmps.getD 61 undef = .agg #[.int .u64 x3, .int .u64 z2] := h.dep 61 (by kernel_rfl)
      have e65 : a.tmps.getD 65 undef = .agg #[.int .u64 x4, .int .u64 z1] := h.dep 65 (by kernel_rfl)
      obtain ⟨_, _, _, _, _, hr5⟩ := h.base.r
      have hs := hr5.lt
      refine ⟨.slice (some ⟨w.heap.size, 0, none⟩) 5 5, w.alloc (.cells #[.int .u64 x0, .int .u64 y1, .int .u64 x1, .int .u64 y0, .int .u64 x2, .int .u64 z3, .int .u64 x3, .int .u64 z2, .int .u64 x4, .int .u64 z1] 128), ?_, h.base.alloc _, Or.inl (World.grownBy_alloc _ _ _), ⟨w.heap.size, by omega, rfl, Blk.new w _ _⟩⟩
      clear h
      simp only [execOp, List.map_toArray, List.map_cons, List.map_nil, Act.eval, e48, e53, e57, e61, e65]
      go_simp
    refine ⟨flow_call rfl rfl fun a w h => ?_, ?_⟩
    · obtain ⟨PB, hne, e66, hP⟩ : ∃ PB, PB ≠ R ∧ a.tmps.getD 66 undef = .slice (some ⟨PB, 0, none⟩) 5 5 ∧ Blk w PB 128 (flat [(x0, y1), (x1, y0), (x2, z3), (x3, z2), (x4, z1)]) := h.dep 66 (by kernel_rfl)
      have hb := h.base
      refine ⟨80, #[.slice (some ⟨PB, 0, none⟩) 5 5], ?_, ?_⟩
      · clear h hb hP
        have e66x : a.tmps[66]?.getD undef = .slice (some ⟨PB, 0, none⟩) 5 5 := by simpa using e66
        clear e66
        go_simp
      · refine (sumUp_any PB 5 _ w _ rfl (by decide) hP ?_).mono ?_
        · intro p hp; simp only [List.mem_cons, List.not_mem_nil, or_false] at hp; rcases hp with rfl | rfl | rfl | rfl | rfl <;> exact ⟨by assumption, by assumption, by assumption, by assumption⟩
        · rintro e w1 ⟨rfl, hg⟩; exact ⟨_, rfl, hb.grown hg, Or.inl hg, by show sumV _ = _; rw [HS1.out]; rfl⟩
    refine ⟨flow_value rfl rfl fun a w h => ?_, ?_⟩
    · have e2 : a.tmps.getD 2 undef = .pointer (some ⟨A, 0, none⟩) := h.rest 2 (by kernel_rfl)
      refine ⟨.pointer (some ⟨A, 0, none⟩), w, ?_, h.base, Or.inl (gb_refl _ _), rfl⟩
      clear h
      simp only [execOp, Act.eval, e2]
      go_simp
    refine ⟨flow_value rfl rfl fun a w h => ?_, ?_⟩
    · have e68 : a.tmps.getD 68 undef = .pointer (some ⟨A, 0, none⟩) := h.dep 68 (by kernel_rfl)
      have c := h.base.a.cell (i := 0) rfl
      refine ⟨.int .u64 x0, w, ?_, h.base, Or.inl (gb_refl _ _), rfl⟩
      clear h
      simp only [execOp, Act.eval, e68]
      go_simp
    refine ⟨flow_value rfl rfl fun a w h => ?_, ?_⟩
    · have e3 : a.tmps.getD 3 undef = .pointer (some ⟨B, 0, none⟩) := h.rest 3 (by kernel_rfl)
      refine ⟨.pointer (some ⟨B, 2, none⟩), w, ?_, h.base, Or.inl (gb_refl _ _), rfl⟩
      clear h
      simp only [execOp, Act.eval, e3]
      go_simp
    refine ⟨flow_value rfl rfl fun a w h => ?_, ?_⟩
    · have e70 : a.tmps.getD 70 undef = .pointer (some ⟨B, 2, none⟩) := h.dep 70 (by kernel_rfl)
      have c := h.base.b.cell (i := 2) rfl
      refine ⟨.int .u64 y2, w, ?_, h.base, Or.inl (gb_refl _ _), rfl⟩
      clear h
      simp only [execOp, Act.eval, e70]
      go_simp
    refine ⟨flow_value rfl rfl fun a w h => ?_, ?_⟩
    · have e69 : a.tmps.getD 69 undef = .int .u64 x0 := h.dep 69 (by kernel_rfl)
      have e71 : a.tmps.getD 71 undef = .int .u64 y2 := h.dep 71 (by kernel_rfl)
      refine ⟨.agg #[.int .u64 x0, .int .u64 y2], w, ?_, h.base, Or.inl (gb_refl _ _), rfl⟩
      clear h
      simp only [execOp, List.map_toArray, List.map_cons, List.map_nil, Act.eval, e69, e71]
      go_simp
    refine ⟨flow_value rfl rfl fun a w h => ?_, ?_⟩
    · have e2 : a.tmps.getD 2 undef = .pointer (some ⟨A, 0, none⟩) := h.rest 2 (by kernel_rfl)
      refine ⟨.pointer (some ⟨A, 1, none⟩), w, ?_, h.base, Or.inl (gb_refl _ _), rfl⟩
      clear h
      simp only [execOp, Act.eval, e2]
      go_simp
    refine ⟨flow_value rfl rfl fun a w h => ?_, ?_⟩
    · have e73 : a.tmps.getD 73 undef = .pointer (some ⟨A, 1, none⟩) := h.dep 73 (by kernel_rfl)
      have c := h.base.a.cell (i := 1) rfl
      refine ⟨.int .u64 x1, w, ?_, h.base, Or.inl (gb_refl _ _), rfl⟩
      clear h
      simp only [execOp, Act.eval, e73]
      go_simp
    refine ⟨flow_value rfl rfl fun a w h => ?_, ?_⟩
    · have e3 : a.tmps.getD 3 undef = .pointer (some ⟨B, 0, none⟩) := h.rest 3 (by kernel_rfl)
      refine ⟨.pointer (some ⟨B, 1, none⟩), w, ?_, h.base, Or.inl (gb_refl _ _), rfl⟩
      clear h
      simp only [execOp, Act.eval, e3]
      go_simp
    refine ⟨flow_value rfl rfl fun a w h => ?_, ?_⟩
    · have e75 : a.tmps.getD 75 undef = .pointer (some ⟨B, 1, none⟩) := h.dep 75 (by kernel_rfl)
      have c := h.base.b.cell (i := 1) rfl
      refine ⟨.int .u64 y1, w, ?_, h.base, Or.inl (gb_refl _ _), rfl⟩
      clear h
      simp only [execOp, Act.eval, e75]
      go_simp
    refine ⟨flow_value rfl rfl fun a w h => ?_, ?_⟩
    · have e74 : a.tmps.getD 74 undef = .int .u64 x1 := h.dep 74 (by kernel_rfl)
      have e76 : a.tmps.getD 76 undef = .int .u64 y1 := h.dep 76 (by kernel_rfl)
      refine ⟨.agg #[.int .u64 x1, .int .u64 y1], w, ?_, h.base, Or.inl (gb_refl _ _), rfl⟩
      clear h
      simp only [execOp, List.map_toArray, List.map_cons, List.map_nil, Act.eval, e74, e76]
      go_simp
    refine ⟨flow_value rfl rfl fun a w h => ?_, ?_⟩
    · have e2 : a.tmps.getD 2 undef = .pointer (some ⟨A, 0, none⟩) := h.rest 2 (by kernel_rfl)
      refine ⟨.pointer (some ⟨A, 2, none⟩), w, ?_, h.base, Or.inl (gb_refl _ _), rfl⟩
      clear h
      simp only [execOp, Act.eval, e2]
      go_simp
    refine ⟨flow_value rfl rfl fun a w h => ?_, ?_⟩
    · have e78 : a.tmps.getD 78 undef = .pointer (some ⟨A, 2, none⟩) := h.dep 78 (by kernel_rfl)
      have c := h.base.a.cell (i := 2) rfl
      refine ⟨.int .u64 x2, w, ?_, h.base, Or.inl (gb_refl _ _), rfl⟩
      clear h
      simp only [execOp, Act.eval, e78]
      go_simp
    refine ⟨flow_value rfl rfl fun a w h => ?_, ?_⟩
    · have e3 : a.tmps.getD 3 undef = .pointer (some ⟨B, 0, none⟩) := h.rest 3 (by kernel_rfl)
      refine ⟨.pointer (some ⟨B, 0, none⟩), w, ?_, h.base, Or.inl (gb_refl _ _), rfl⟩
      clear h
      simp only [execOp, Act.eval, e3]
      go_simp
    refine ⟨flow_value rfl rfl fun a w h => ?_, ?_⟩
    · have e80 : a.tmps.getD 80 undef = .pointer (some ⟨B, 0, none⟩) := h.dep 80 (by kernel_rfl)
      have c := h.base.b.cell (i := 0) rfl
      refine ⟨.int .u64 y0, w, ?_, h.base, Or.inl (gb_refl _ _), rfl⟩
      clear h
      simp only [execOp, Act.eval, e80]
      go_simp
    refine ⟨flow_value rfl rfl fun a w h => ?_, ?_⟩
    · have e79 : a.tmps.getD 79 undef = .int .u64 x2 := h.dep 79 (by kernel_rfl)
      have e81 : a.tmps.getD 81 undef = .int .u64 y0 := h.dep 81 (by kernel_rfl)
      refine ⟨.agg #[.int .u64 x2, .int .u64 y0], w, ?_, h.base, Or.inl (gb_refl _ _), rfl⟩
      clear h
      simp only [execOp, List.map_toArray, List.map_cons, List.map_nil, Act.eval, e79, e81]
      go_simp
    refine ⟨flow_value rfl rfl fun a w h => ?_, ?_⟩
    · have e2 : a.tmps.getD 2 undef = .pointer (some ⟨A, 0, none⟩) := h.rest 2 (by kernel_rfl)
      refine ⟨.pointer (some ⟨A, 3, none⟩), w, ?_, h.base, Or.inl (gb_refl _ _), rfl⟩
      clear h
      simp only [execOp, Act.eval, e2]
      go_simp
    refine ⟨flow_value rfl rfl fun a w h => ?_, ?_⟩
    · have e83 : a.tmps.getD 83 undef = .pointer (some ⟨A, 3, none⟩) := h.dep 83 (by kernel_rfl)
      have c := h.base.a.cell (i := 3) rfl
      refine ⟨.int .u64 x3, w, ?_, h.base, Or.inl (gb_refl _ _), rfl⟩
      clear h
      simp only [execOp, Act.eval, e83]
      go_simp
    refine ⟨flow_value rfl rfl fun a w h => ?_, ?_⟩
    · have e8 : a.tmps.getD 8 undef = .int .u64 z3 := (h.rest 8 (by kernel_rfl)).trans (congrArg (Value.int .u64) Hz3.out)
      refine ⟨.int .u64 z3, w, ?_, h.base, Or.inl (gb_refl _ _), rfl⟩
      clear h
      simp only [execOp, Act.eval, e8]
      go_simp
    refine ⟨flow_value rfl rfl fun a w h => ?_, ?_⟩
    · have e84 : a.tmps.getD 84 undef = .int .u64 x3 := h.dep 84 (by kernel_rfl)
      have e85 : a.tmps.getD 85 undef = .int .u64 z3 := h.dep 85 (by kernel_rfl)
      refine ⟨.agg #[.int .u64 x3, .int .u64 z3], w, ?_, h.base, Or.inl (gb_refl _ _), rfl⟩
      clear h
      simp only [execOp, List.map_toArray, List.map_cons, List.map_nil, Act.eval, e84, e85]
      go_simp
    refine ⟨flow_value rfl rfl fun a w h => ?_, ?_⟩
    · have e2 : a.tmps.getD 2 undef = .pointer (some ⟨A, 0, none⟩) := h.rest 2 (by kernel_rfl)
      refine ⟨.pointer (some ⟨A, 4, none⟩), w, ?_, h.base, Or.inl (gb_refl _ _), rfl⟩
      clear h
      simp only [execOp, Act.eval, e2]
      go_simp
    refine ⟨flow_value rfl rfl fun a w h => ?_, ?_⟩
    · have e87 : a.tmps.getD 87 undef = .pointer (some ⟨A, 4, none⟩) := h.dep 87 (by kernel_rfl)
      have c := h.base.a.cell (i := 4) rfl
      refine ⟨.int .u64 x4, w, ?_, h.base, Or.inl (gb_refl _ _), rfl⟩
      clear h
      simp only [execOp, Act.eval, e87]
      go_simp
    refine ⟨flow_value rfl rfl fun a w h => ?_, ?_⟩
    · have e7 : a.tmps.getD 7 undef = .int .u64 z2 := (h.rest 7 (by kernel_rfl)).trans (congrArg (Value.int .u64) Hz2.out)
      refine ⟨.int .u64 z2, w, ?_, h.base, Or.inl (gb_refl _ _), rfl⟩
      clear h
      simp only [execOp, Act.eval, e7]
      go_simp
    refine ⟨flow_value rfl rfl fun a w h => ?_, ?_⟩
    · have e88 : a.tmps.getD 88 undef = .int .u64 x4 := h.dep 88 (by kernel_rfl)
      have e89 : a.tmps.getD 89 undef = .int .u64 z2 := h.dep 89 (by kernel_rfl)
      refine ⟨.agg #[.int .u64 x4, .int .u64 z2], w, ?_, h.base, Or.inl (gb_refl _ _), rfl⟩
      clear h
      simp only [execOp, List.map_toArray, List.map_cons, List.map_nil, Act.eval, e88, e89]
      go_simp
    refine ⟨flow_value rfl rfl fun a w h => ?_, ?_⟩
    · have e72 : a.tmps.getD 72 undef = .agg #[.int .u64 x0, .int .u64 y2] := h.dep 72 (by kernel_rfl)
      have e77 : a.tmps.getD 77 undef = .agg #[.int .u64 x1, .int .u64 y1] := h.dep 77 (by kernel_rfl)
      have e82 : a.tmps.getD 82 undef = .agg #[.int .u64 x2, .int .u64 y0] := h.dep 82 (by kernel_rfl)
      have e86 : a.tmps.getD 86 undef = .agg #[.int .u64 x3, .int .u64 z3] := h.dep 86 (by kernel_rfl)
      have e90 : a.tmps.getD 90 undef = .agg #[.int .u64 x4, .int .u64 z2] := h.dep 90 (by kernel_rfl)
      obtain ⟨_, _, _, _, _, hr5⟩ := h.base.r
      have hs := hr5.lt
      refine ⟨.slice (some ⟨w.heap.size, 0, none⟩) 5 5, w.alloc (.cells #[.int .u64 x0, .int .u64 y2, .int .u64 x1, .int .u64 y1, .int .u64 x2, .int .u64 y0, .int .u64 x3, .int .u64 z3, .int .u64 x4, .int .u64 z2] 128), ?_, h.base.alloc _, Or.inl (World.grownBy_alloc _ _ _), ⟨w.heap.size, by omega, rfl, Blk.new w _ _⟩⟩
      clear h
      simp only [execOp, List.map_toArray, List.map_cons, List.map_nil, Act.eval, e72, e77, e82, e86, e90]
      go_simp
    refine ⟨flow_call rfl rfl fun a w h => ?_, ?_⟩
    · obtain ⟨PB, hne, e91, hP⟩ : ∃ PB, PB ≠ R ∧ a.tmps.getD 91 undef = .slice (some ⟨PB, 0, none⟩) 5 5 ∧ Blk w PB 128 (flat [(x0, y2), (x1, y1), (x2, y0), (x3, z3), (x4, z2)]) := h.dep 91 (by kernel_rfl)
      have hb := h.base
      refine ⟨80, #[.slice (some ⟨PB, 0, none⟩) 5 5], ?_, ?_⟩
      · clear h hb hP
        have e91x : a.tmps[91]?.getD undef = .slice (some ⟨PB, 0, none⟩) 5 5 := by simpa using e91
        clear e91
        go_simp
      · refine (sumUp_any PB 5 _ w _ rfl (by decide) hP ?_).mono ?_
        · intro p hp; simp only [List.mem_cons, List.not_mem_nil, or_false] at hp; rcases hp with rfl | rfl | rfl | rfl | rfl <;> exact ⟨by assumption, by assumption, by assumption, by assumption⟩
        · rintro e w1 ⟨rfl, hg⟩; exact ⟨_, rfl, hb.grown hg, Or.inl hg, by show sumV _ = _; rw [HS2.out]; rfl⟩
    refine ⟨flow_value rfl rfl fun a w h => ?_, ?_⟩
    · have e2 : a.tmps.getD 2 undef = .pointer (some ⟨A, 0, none⟩) := h.rest 2 (by kernel_rfl)
      refine ⟨.pointer (some ⟨A, 0, none⟩), w, ?_, h.base, Or.inl (gb_refl _ _), rfl⟩
      clear h
      simp only [execOp, Act.eval, e2]
      go_simp
    refine ⟨flow_value rfl rfl fun a w h => ?_, ?_⟩
    · have e93 : a.tmps.getD 93 undef = .pointer (some ⟨A, 0, none⟩) := h.dep 93 (by kernel_rfl)
      have c := h.base.a.cell (i := 0) rfl
      refine ⟨.int .u64 x0, w, ?_, h.base, Or.inl (gb_refl _ _), rfl⟩
      clear h
      simp only [execOp, Act.eval, e93]
      go_simp
    refine ⟨flow_value rfl rfl fun a w h => ?_, ?_⟩
    · have e3 : a.tmps.getD 3 undef = .pointer (some ⟨B, 0, none⟩) := h.rest 3 (by kernel_rfl)
      refine ⟨.pointer (some ⟨B, 3, none⟩), w, ?_, h.base, Or.inl (gb_refl _ _), rfl⟩
      clear h
      simp only [execOp, Act.eval, e3]
      go_simp
    refine ⟨flow_value rfl rfl fun a w h => ?_, ?_⟩
    · have e95 : a.tmps.getD 95 undef = .pointer (some ⟨B, 3, none⟩) := h.dep 95 (by kernel_rfl)
      have c := h.base.b.cell (i := 3) rfl
      refine ⟨.int .u64 y3, w, ?_, h.base, Or.inl (gb_refl _ _), rfl⟩
      clear h
      simp only [execOp, Act.eval, e95]
      go_simp
    refine ⟨flow_value rfl rfl fun a w h => ?_, ?_⟩
    · have e94 : a.tmps.getD 94 undef = .int .u64 x0 := h.dep 94 (by kernel_rfl)
      have e96 : a.tmps.getD 96 undef = .int .u64 y3 := h.dep 96 (by kernel_rfl)
      refine ⟨.agg #[.int .u64 x0, .int .u64 y3], w, ?_, h.base, Or.inl (gb_refl _ _), rfl⟩
      clear h
      simp only [execOp, List.map_toArray, List.map_cons, List.map_nil, Act.eval, e94, e96]
      go_simp
    refine ⟨flow_value rfl rfl fun a w h => ?_, ?_⟩
    · have e2 : a.tmps.getD 2 undef = .pointer (some ⟨A, 0, none⟩) := h.rest 2 (by kernel_rfl)
      refine ⟨.pointer (some ⟨A, 1, none⟩), w, ?_, h.base, Or.inl (gb_refl _ _), rfl⟩
      clear h
      simp only [execOp, Act.eval, e2]
      go_simp
    refine ⟨flow_value rfl rfl fun a w h => ?_, ?_⟩
    · have e98 : a.tmps.getD 98 undef = .pointer (some ⟨A, 1, none⟩) := h.dep 98 (by kernel_rfl)
      have c := h.base.a.cell (i := 1) rfl
      refine ⟨.int .u64 x1, w, ?_, h.base, Or.inl (gb_refl _ _), rfl⟩
      clear h
      simp only [execOp, Act.eval, e98]
      go_simp
    refine ⟨flow_value rfl rfl fun a w h => ?_, ?_⟩
    · have e3 : a.tmps.getD 3 undef = .pointer (some ⟨B, 0, none⟩) := h.rest 3 (by kernel_rfl)
      refine ⟨.pointer (some ⟨B, 2, none⟩), w, ?_, h.base, Or.inl (gb_refl _ _), rfl⟩
      clear h
      simp only [execOp, Act.eval, e3]
      go_simp
    refine ⟨flow_value rfl rfl fun a w h => ?_, ?_⟩
    · have e100 : a.tmps.getD 100 undef = .pointer (some ⟨B, 2, none⟩) := h.dep 100 (by kernel_rfl)
      have c := h.base.b.cell (i := 2) rfl
      refine ⟨.int .u64 y2, w, ?_, h.base, Or.inl (gb_refl _ _), rfl⟩
      clear h
      simp only [execOp, Act.eval, e100]
      go_simp
    refine ⟨flow_value rfl rfl fun a w h => ?_, ?_⟩
    · have e99 : a.tmps.getD 99 undef = .int .u64 x1 := h.dep 99 (by kernel_rfl)
      have e101 : a.tmps.getD 101 undef = .int .u64 y2 := h.dep 101 (by kernel_rfl)
      refine ⟨.agg #[.int .u64 x1, .int .u64 y2], w, ?_, h.base, Or.inl (gb_refl _ _), rfl⟩
      clear h
      simp only [execOp, List.map_toArray, List.map_cons, List.map_nil, Act.eval, e99, e101]
      go_simp
    refine ⟨flow_value rfl rfl fun a w h => ?_, ?_⟩
    · have e2 : a.tmps.getD 2 undef = .pointer (some ⟨A, 0, none⟩) := h.rest 2 (by kernel_rfl)
      refine ⟨.pointer (some ⟨A, 2, none⟩), w, ?_, h.base, Or.inl (gb_refl _ _), rfl⟩
      clear h
      simp only [execOp, Act.eval, e2]
      go_simp
    refine ⟨flow_value rfl rfl fun a w h => ?_, ?_⟩
    · have e103 : a.tmps.getD 103 undef = .pointer (some ⟨A, 2, none⟩) := h.dep 103 (by kernel_rfl)
      have c := h.base.a.cell (i := 2) rfl
      refine ⟨.int .u64 x2, w, ?_, h.base, Or.inl (gb_refl _ _), rfl⟩
      clear h
      simp only [execOp, Act.eval, e103]
      go_simp
    refine ⟨flow_value rfl rfl fun a w h => ?_, ?_⟩
    · have e3 : a.tmps.getD 3 undef = .pointer (some ⟨B, 0, none⟩) := h.rest 3 (by kernel_rfl)
      refine ⟨.pointer (some ⟨B, 1, none⟩), w, ?_, h.base, Or.inl (gb_refl _ _), rfl⟩
      clear h
      simp only [execOp, Act.eval, e3]
      go_simp
    refine ⟨flow_value rfl rfl fun a w h => ?_, ?_⟩
    · have e105 : a.tmps.getD 105 undef = .pointer (some ⟨B, 1, none⟩) := h.dep 105 (by kernel_rfl)
      have c := h.base.b.cell (i := 1) rfl
      refine ⟨.int .u64 y1, w, ?_, h.base, Or.inl (gb_refl _ _), rfl⟩
      clear h
      simp only [execOp, Act.eval, e105]
      go_simp
    refine ⟨flow_value rfl rfl fun a w h => ?_, ?_⟩
    · have e104 : a.tmps.getD 104 undef = .int .u64 x2 := h.dep 104 (by kernel_rfl)
      have e106 : a.tmps.getD 106 undef = .int .u64 y1 := h.dep 106 (by kernel_rfl)
      refine ⟨.agg #[.int .u64 x2, .int .u64 y1], w, ?_, h.base, Or.inl (gb_refl _ _), rfl⟩
      clear h
      simp only [execOp, List.map_toArray, List.map_cons, List.map_nil, Act.eval, e104, e106]
      go_simp
    refine ⟨flow_value rfl rfl fun a w h => ?_, ?_⟩
    · have e2 : a.tmps.getD 2 undef = .pointer (some ⟨A, 0, none⟩) := h.rest 2 (by kernel_rfl)
      refine ⟨.pointer (some ⟨A, 3, none⟩), w, ?_, h.base, Or.inl (gb_refl _ _), rfl⟩
      clear h
      simp only [execOp, Act.eval, e2]
      go_simp
    refine ⟨flow_value rfl rfl fun a w h => ?_, ?_⟩
    · have e108 : a.tmps.getD 108 undef = .pointer (some ⟨A, 3, none⟩) := h.dep 108 (by kernel_rfl)
      have c := h.base.a.cell (i := 3) rfl
      refine ⟨.int .u64 x3, w, ?_, h.base, Or.inl (gb_refl _ _), rfl⟩
      clear h
      simp only [execOp, Act.eval, e108]
      go_simp
    refine ⟨flow_value rfl rfl fun a w h => ?_, ?_⟩
    · have e3 : a.tmps.getD 3 undef = .pointer (some ⟨B, 0, none⟩) := h.rest 3 (by kernel_rfl)
      refine ⟨.pointer (some ⟨B, 0, none⟩), w, ?_, h.base, Or.inl (gb_refl _ _), rfl⟩
      clear h
      simp only [execOp, Act.eval, e3]
      go_simp
    refine ⟨flow_value rfl rfl fun a w h => ?_, ?_⟩
    · have e110 : a.tmps.getD 110 undef = .pointer (some ⟨B, 0, none⟩) := h.dep 110 (by kernel_rfl)
      have c := h.base.b.cell (i := 0) rfl
      refine ⟨.int .u64 y0, w, ?_, h.base, Or.inl (gb_refl _ _), rfl⟩
      clear h
      simp only [execOp, Act.eval, e110]
      go_simp
    refine ⟨flow_value rfl rfl fun a w h => ?_, ?_⟩
    · have e109 : a.tmps.getD 109 undef = .int .u64 x3 := h.dep 109 (by kernel_rfl)
      have e111 : a.tmps.getD 111 undef = .int .u64 y0 := h.dep 111 (by kernel_rfl)
      refine ⟨.agg #[.int .u64 x3, .int .u64 y0], w, ?_, h.base, Or.inl (gb_refl _ _), rfl⟩
      clear h
      simp only [execOp, List.map_toArray, List.map_cons, List.map_nil, Act.eval, e109, e111]
      go_simp
    refine ⟨flow_value rfl rfl fun a w h => ?_, ?_⟩
    · have e2 : a.tmps.getD 2 undef = .pointer (some ⟨A, 0, none⟩) := h.rest 2 (by kernel_rfl)
      refine ⟨.pointer (some ⟨A, 4, none⟩), w, ?_, h.base, Or.inl (gb_refl _ _), rfl⟩
      clear h
      simp only [execOp, Act.eval, e2]
      go_simp
    refine ⟨flow_value rfl rfl fun a w h => ?_, ?_⟩
    · have e113 : a.tmps.getD 113 undef = .pointer (some ⟨A, 4, none⟩) := h.dep 113 (by kernel_rfl)
      have c := h.base.a.cell (i := 4) rfl
      refine ⟨.int .u64 x4, w, ?_, h.base, Or.inl (gb_refl _ _), rfl⟩
      clear h
      simp only [execOp, Act.eval, e113]
      go_simp
    refine ⟨flow_value rfl rfl fun a w h => ?_, ?_⟩
    · have e8 : a.tmps.getD 8 undef = .int .u64 z3 := (h.rest 8 (by kernel_rfl)).trans (congrArg (Value.int .u64) Hz3.out)
      refine ⟨.int .u64 z3, w, ?_, h.base, Or.inl (gb_refl _ _), rfl⟩
      clear h
      simp only [execOp, Act.eval, e8]
      go_simp
    refine ⟨flow_value rfl rfl fun a w h => ?_, ?_⟩
    · have e114 : a.tmps.getD 114 undef = .int .u64 x4 := h.dep 114 (by kernel_rfl)
      have e115 : a.tmps.getD 115 undef = .int .u64 z3 := h.dep 115 (by kernel_rfl)
      refine ⟨.agg #[.int .u64 x4, .int .u64 z3], w, ?_, h.base, Or.inl (gb_refl _ _), rfl⟩
      clear h
      simp only [execOp, List.map_toArray, List.map_cons, List.map_nil, Act.eval, e114, e115]
      go_simp
    refine ⟨flow_value rfl rfl fun a w h => ?_, ?_⟩
    · have e97 : a.tmps.getD 97 undef = .agg #[.int .u64 x0, .int .u64 y3] := h.dep 97 (by kernel_rfl)
      have e102 : a.tmps.getD 102 undef = .agg #[.int .u64 x1, .int .u64 y2] := h.dep 102 (by kernel_rfl)
      have e107 : a.tmps.getD 107 undef = .agg #[.int .u64 x2, .int .u64 y1] := h.dep 107 (by kernel_rfl)
      have e112 : a.tmps.getD 112 undef = .agg #[.int .u64 x3, .int .u64 y0] := h.dep 112 (by kernel_rfl)
      have e116 : a.tmps.getD 116 undef = .agg #[.int .u64 x4, .int .u64 z3] := h.dep 116 (by kernel_rfl)
      obtain ⟨_, _, _, _, _, hr5⟩ := h.base.r
      have hs := hr5.lt
      refine ⟨.slice (some ⟨w.heap.size, 0, none⟩) 5 5, w.alloc (.cells #[.int .u64 x0, .int .u64 y3, .int .u64 x1, .int .u64 y2, .int .u64 x2, .int .u64 y1, .int .u64 x3, .int .u64 y0, .int .u64 x4, .int .u64 z3] 128), ?_, h.base.alloc _, Or.inl (World.grownBy_alloc _ _ _), ⟨w.heap.size, by omega, rfl, Blk.new w _ _⟩⟩
      clear h
      simp only [execOp, List.map_toArray, List.map_cons, List.map_nil, Act.eval, e97, e102, e107, e112, e116]
      go_simp
    refine ⟨flow_call rfl rfl fun a w h => ?_, ?_⟩
    · obtain ⟨PB, hne, e117, hP⟩ : ∃ PB, PB ≠ R ∧ a.tmps.getD 117 undef = .slice (some ⟨PB, 0, none⟩) 5 5 ∧ Blk w PB 128 (flat [(x0, y3), (x1, y2), (x2, y1), (x3, y0), (x4, z3)]) := h.dep 117 (by kernel_rfl)
      have hb := h.base
      refine ⟨80, #[.slice (some ⟨PB, 0, none⟩) 5 5], ?_, ?_⟩
      · clear h hb hP
        have e117x : a.tmps[117]?.getD undef = .slice (some ⟨PB, 0, none⟩) 5 5 := by simpa using e117
        clear e117
        go_simp
      · refine (sumUp_any PB 5 _ w _ rfl (by decide) hP ?_).mono ?_
        · intro p hp; simp only [List.mem_cons, List.not_mem_nil, or_false] at hp; rcases hp with rfl | rfl | rfl | rfl | rfl <;> exact ⟨by assumption, by assumption, by assumption, by assumption⟩
        · rintro e w1 ⟨rfl, hg⟩; exact ⟨_, rfl, hb.grown hg, Or.inl hg, by show sumV _ = _; rw [HS3.out]; rfl⟩
    refine ⟨flow_value rfl rfl fun a w h => ?_, ?_⟩
    · have e2 : a.tmps.getD 2 undef = .pointer (some ⟨A, 0, none⟩) := h.rest 2 (by kernel_rfl)
      refine ⟨.pointer (some ⟨A, 0, none⟩), w, ?_, h.base, Or.inl (gb_refl _ _), rfl⟩
      clear h
      simp only [execOp, Act.eval, e2]
      go_simp
    refine ⟨flow_value rfl rfl fun a w h => ?_, ?_⟩
    · have e119 : a.tmps.getD 119 undef = .pointer (some ⟨A, 0, none⟩) := h.dep 119 (by kernel_rfl)
      have c := h.base.a.cell (i := 0) rfl
      refine ⟨.int .u64 x0, w, ?_, h.base, Or.inl (gb_refl _ _), rfl⟩
      clear h
      simp only [execOp, Act.eval, e119]
      go_simp
    refine ⟨flow_value rfl rfl fun a w h => ?_, ?_⟩
    · have e3 : a.tmps.getD 3 undef = .pointer (some ⟨B, 0, none⟩) := h.rest 3 (by kernel_rfl)
      refine ⟨.pointer (some ⟨B, 4, none⟩), w, ?_, h.base, Or.inl (gb_refl _ _), rfl⟩
      clear h
      simp only [execOp, Act.eval, e3]
      go_simp
    refine ⟨flow_value rfl rfl fun a w h => ?_, ?_⟩
    · have e121 : a.tmps.getD 121 undef = .pointer (some ⟨B, 4, none⟩) := h.dep 121 (by kernel_rfl)
      have c := h.base.b.cell (i := 4) rfl
      refine ⟨.int .u64 y4, w, ?_, h.base, Or.inl (gb_refl _ _), rfl⟩
      clear h
      simp only [execOp, Act.eval, e121]
      go_simp
    refine ⟨flow_value rfl rfl fun a w h => ?_, ?_⟩
    · have e120 : a.tmps.getD 120 undef = .int .u64 x0 := h.dep 120 (by kernel_rfl)
      have e122 : a.tmps.getD 122 undef = .int .u64 y4 := h.dep 122 (by kernel_rfl)
      refine ⟨.agg #[.int .u64 x0, .int .u64 y4], w, ?_, h.base, Or.inl (gb_refl _ _), rfl⟩
      clear h
      simp only [execOp, List.map_toArray, List.map_cons, List.map_nil, Act.eval, e120, e122]
      go_simp
    refine ⟨flow_value rfl rfl fun a w h => ?_, ?_⟩
    · have e2 : a.tmps.getD 2 undef = .pointer (some ⟨A, 0, none⟩) := h.rest 2 (by kernel_rfl)
      refine ⟨.pointer (some ⟨A, 1, none⟩), w, ?_, h.base, Or.inl (gb_refl _ _), rfl⟩
      clear h
      simp only [execOp, Act.eval, e2]
      go_simp
    refine ⟨flow_value rfl rfl fun a w h => ?_, ?_⟩
    · have e124 : a.tmps.getD 124 undef = .pointer (some ⟨A, 1, none⟩) := h.dep 124 (by kernel_rfl)
      have c := h.base.a.cell (i := 1) rfl
      refine ⟨.int .u64 x1, w, ?_, h.base, Or.inl (gb_refl _ _), rfl⟩
      clear h
      simp only [execOp, Act.eval, e124]
      go_simp
    refine ⟨flow_value rfl rfl fun a w h => ?_, ?_⟩
    · have e3 : a.tmps.getD 3 undef = .pointer (some ⟨B, 0, none⟩) := h.rest 3 (by kernel_rfl)
      refine ⟨.pointer (some ⟨B, 3, none⟩), w, ?_, h.base, Or.inl (gb_refl _ _), rfl⟩
      clear h
      simp only [execOp, Act.eval, e3]
      go_simp
    refine ⟨flow_value rfl rfl fun a w h => ?_, ?_⟩
    · have e126 : a.tmps.getD 126 undef = .pointer (some ⟨B, 3, none⟩) := h.dep 126 (by kernel_rfl)
      have c := h.base.b.cell (i := 3) rfl
      refine ⟨.int .u64 y3, w, ?_, h.base, Or.inl (gb_refl _ _), rfl⟩
      clear h
      simp only [execOp, Act.eval, e126]
      go_simp
    refine ⟨flow_value rfl rfl fun a w h => ?_, ?_⟩
    · have e125 : a.tmps.getD 125 undef = .int .u64 x1 := h.dep 125 (by kernel_rfl)
      have e127 : a.tmps.getD 127 undef = .int .u64 y3 := h.dep 127 (by kernel_rfl)
      refine ⟨.agg #[.int .u64 x1, .int .u64 y3], w, ?_, h.base, Or.inl (gb_refl _ _), rfl⟩
      clear h
      simp only [execOp, List.map_toArray, List.map_cons, List.map_nil, Act.eval, e125, e127]
      go_simp
    refine ⟨flow_value rfl rfl fun a w h => ?_, ?_⟩
    · have e2 : a.tmps.getD 2 undef = .pointer (some ⟨A, 0, none⟩) := h.rest 2 (by kernel_rfl)
      refine ⟨.pointer (some ⟨A, 2, none⟩), w, ?_, h.base, Or.inl (gb_refl _ _), rfl⟩
      clear h
      simp only [execOp, Act.eval, e2]
      go_simp
    refine ⟨flow_value rfl rfl fun a w h => ?_, ?_⟩
    · have e129 : a.tmps.getD 129 undef = .pointer (some ⟨A, 2, none⟩) := h.dep 129 (by kernel_rfl)
      have c := h.base.a.cell (i := 2) rfl
      refine ⟨.int .u64 x2, w, ?_, h.base, Or.inl (gb_refl _ _), rfl⟩
      clear h
      simp only [execOp, Act.eval, e129]
      go_simp
    refine ⟨flow_value rfl rfl fun a w h => ?_, ?_⟩
    · have e3 : a.tmps.getD 3 undef = .pointer (some ⟨B, 0, none⟩) := h.rest 3 (by kernel_rfl)
      refine ⟨.pointer (some ⟨B, 2, none⟩), w, ?_, h.base, Or.inl (gb_refl _ _), rfl⟩
      clear h
      simp only [execOp, Act.eval, e3]
      go_simp
    refine ⟨flow_value rfl rfl fun a w h => ?_, ?_⟩
    · have e131 : a.tmps.getD 131 undef = .pointer (some ⟨B, 2, none⟩) := h.dep 131 (by kernel_rfl)
      have c := h.base.b.cell (i := 2) rfl
      refine ⟨.int .u64 y2, w, ?_, h.base, Or.inl (gb_refl _ _), rfl⟩
      clear h
      simp only [execOp, Act.eval, e131]
      go_simp
    refine ⟨flow_value rfl rfl fun a w h => ?_, ?_⟩
    · have e130 : a.tmps.getD 130 undef = .int .u64 x2 := h.dep 130 (by kernel_rfl)
      have e132 : a.tmps.getD 132 undef = .int .u64 y2 := h.dep 132 (by kernel_rfl)
      refine ⟨.agg #[.int .u64 x2, .int .u64 y2], w, ?_, h.base, Or.inl (gb_refl _ _), rfl⟩
      clear h
      simp only [execOp, List.map_toArray, List.map_cons, List.map_nil, Act.eval, e130, e132]
      go_simp
    refine ⟨flow_value rfl rfl fun a w h => ?_, ?_⟩
    · have e2 : a.tmps.getD 2 undef = .pointer (some ⟨A, 0, none⟩) := h.rest 2 (by kernel_rfl)
      refine ⟨.pointer (some ⟨A, 3, none⟩), w, ?_, h.base, Or.inl (gb_refl _ _), rfl⟩
      clear h
      simp only [execOp, Act.eval, e2]
      go_simp
    refine ⟨flow_value rfl rfl fun a w h => ?_, ?_⟩
    · have e134 : a.tmps.getD 134 undef = .pointer (some ⟨A, 3, none⟩) := h.dep 134 (by kernel_rfl)
      have c := h.base.a.cell (i := 3) rfl
      refine ⟨.int .u64 x3, w, ?_, h.base, Or.inl (gb_refl _ _), rfl⟩
      clear h
      simp only [execOp, Act.eval, e134]
      go_simp
    refine ⟨flow_value rfl rfl fun a w h => ?_, ?_⟩
    · have e3 : a.tmps.getD 3 undef = .pointer (some ⟨B, 0, none⟩) := h.rest 3 (by kernel_rfl)
      refine ⟨.pointer (some ⟨B, 1, none⟩), w, ?_, h.base, Or.inl (gb_refl _ _), rfl⟩
      clear h
      simp only [execOp, Act.eval, e3]
      go_simp
    refine ⟨flow_value rfl rfl fun a w h => ?_, ?_⟩
    · have e136 : a.tmps.getD 136 undef = .pointer (some ⟨B, 1, none⟩) := h.dep 136 (by kernel_rfl)
      have c := h.base.b.cell (i := 1) rfl
      refine ⟨.int .u64 y1, w, ?_, h.base, Or.inl (gb_refl _ _), rfl⟩
      clear h
      simp only [execOp, Act.eval, e136]
      go_simp
    refine ⟨flow_value rfl rfl fun a w h => ?_, ?_⟩
    · have e135 : a.tmps.getD 135 undef = .int .u64 x3 := h.dep 135 (by kernel_rfl)
      have e137 : a.tmps.getD 137 undef = .int .u64 y1 := h.dep 137 (by kernel_rfl)
      refine ⟨.agg #[.int .u64 x3, .int .u64 y1], w, ?_, h.base, Or.inl (gb_refl _ _), rfl⟩
      clear h
      simp only [execOp, List.map_toArray, List.map_cons, List.map_nil, Act.eval, e135, e137]
      go_simp
    refine ⟨flow_value rfl rfl fun a w h => ?_, ?_⟩
    · have e2 : a.tmps.getD 2 undef = .pointer (some ⟨A, 0, none⟩) := h.rest 2 (by kernel_rfl)
      refine ⟨.pointer (some ⟨A, 4, none⟩), w, ?_, h.base, Or.inl (gb_refl _ _), rfl⟩
      clear h
      simp only [execOp, Act.eval, e2]
      go_simp
    refine ⟨flow_value rfl rfl fun a w h => ?_, ?_⟩
    · have e139 : a.tmps.getD 139 undef = .pointer (some ⟨A, 4, none⟩) := h.dep 139 (by kernel_rfl)
      have c := h.base.a.cell (i := 4) rfl
      refine ⟨.int .u64 x4, w, ?_, h.base, Or.inl (gb_refl _ _), rfl⟩
      clear h
      simp only [execOp, Act.eval, e139]
      go_simp
    refine ⟨flow_value rfl rfl fun a w h => ?_, ?_⟩
    · have e3 : a.tmps.getD 3 undef = .pointer (some ⟨B, 0, none⟩) := h.rest 3 (by kernel_rfl)
      refine ⟨.pointer (some ⟨B, 0, none⟩), w, ?_, h.base, Or.inl (gb_refl _ _), rfl⟩
      clear h
      simp only [execOp, Act.eval, e3]
      go_simp
    refine ⟨flow_value rfl rfl fun a w h => ?_, ?_⟩
    · have e141 : a.tmps.getD 141 undef = .pointer (some ⟨B, 0, none⟩) := h.dep 141 (by kernel_rfl)
      have c := h.base.b.cell (i := 0) rfl
      refine ⟨.int .u64 y0, w, ?_, h.base, Or.inl (gb_refl _ _), rfl⟩
      clear h
      simp only [execOp, Act.eval, e141]
      go_simp
    refine ⟨flow_value rfl rfl fun a w h => ?_, ?_⟩
    · have e140 : a.tmps.getD 140 undef = .int .u64 x4 := h.dep 140 (by kernel_rfl)
      have e142 : a.tmps.getD 142 undef = .int .u64 y0 := h.dep 142 (by kernel_rfl)
      refine ⟨.agg #[.int .u64 x4, .int .u64 y0], w, ?_, h.base, Or.inl (gb_refl _ _), rfl⟩
      clear h
      simp only [execOp, List.map_toArray, List.map_cons, List.map_nil, Act.eval, e140, e142]
      go_simp
    refine ⟨flow_value rfl rfl fun a w h => ?_, ?_⟩
    · have e123 : a.tmps.getD 123 undef = .agg #[.int .u64 x0, .int .u64 y4] := h.dep 123 (by kernel_rfl)
      have e128 : a.tmps.getD 128 undef = .agg #[.int .u64 x1, .int .u64 y3] := h.dep 128 (by kernel_rfl)
      have e133 : a.tmps.getD 133 undef = .agg #[.int .u64 x2, .int .u64 y2] := h.dep 133 (by kernel_rfl)
      have e138 : a.tmps.getD 138 undef = .agg #[.int .u64 x3, .int .u64 y1] := h.dep 138 (by kernel_rfl)
      have e143 : a.tmps.getD 143 undef = .agg #[.int .u64 x4, .int .u64 y0] := h.dep 143 (by kernel_rfl)
      obtain ⟨_, _, _, _, _, hr5⟩ := h.base.r
      have hs := hr5.lt
      refine ⟨.slice (some ⟨w.heap.size, 0, none⟩) 5 5, w.alloc (.cells #[.int .u64 x0, .int .u64 y4, .int .u64 x1, .int .u64 y3, .int .u64 x2, .int .u64 y2, .int .u64 x3, .int .u64 y1, .int .u64 x4, .int .u64 y0] 128), ?_, h.base.alloc _, Or.inl (World.grownBy_alloc _ _ _), ⟨w.heap.size, by omega, rfl, Blk.new w _ _⟩⟩
      clear h
      simp only [execOp, List.map_toArray, List.map_cons, List.map_nil, Act.eval, e123, e128, e133, e138, e143]
      go_simp
    refine ⟨flow_call rfl rfl fun a w h => ?_, ?_⟩
    · obtain ⟨PB, hne, e144, hP⟩ : ∃ PB, PB ≠ R ∧ a.tmps.getD 144 undef = .slice (some ⟨PB, 0, none⟩) 5 5 ∧ Blk w PB 128 (flat [(x0, y4), (x1, y3), (x2, y2), (x3, y1), (x4, y0)]) := h.dep 144 (by kernel_rfl)
      have hb := h.base
      refine ⟨80, #[.slice (some ⟨PB, 0, none⟩) 5 5], ?_, ?_⟩
      · clear h hb hP
        have e144x : a.tmps[144]?.getD undef = .slice (some ⟨PB, 0, none⟩) 5 5 := by simpa using e144
        clear e144
        go_simp
      · refine (sumUp_any PB 5 _ w _ rfl (by decide) hP ?_).mono ?_
        · intro p hp; simp only [List.mem_cons, List.not_mem_nil, or_false] at hp; rcases hp with rfl | rfl | rfl | rfl | rfl <;> exact ⟨by assumption, by assumption, by assumption, by assumption⟩
        · rintro e w1 ⟨rfl, hg⟩; exact ⟨_, rfl, hb.grown hg, Or.inl hg, by show sumV _ = _; rw [HS4.out]; rfl⟩
    refine ⟨flow_value rfl rfl fun a w h => ?_, ?_⟩
    · have e43 : a.tmps.getD 43 undef = .agg #[.int .u64 (S0 / 18446744073709551616), .int .u64 (S0 % 18446744073709551616)] := h.dep 43 (by kernel_rfl)
      have e67 : a.tmps.getD 67 undef = .agg #[.int .u64 (S1 / 18446744073709551616), .int .u64 (S1 % 18446744073709551616)] := h.dep 67 (by kernel_rfl)
      have e92 : a.tmps.getD 92 undef = .agg #[.int .u64 (S2 / 18446744073709551616), .int .u64 (S2 % 18446744073709551616)] := h.dep 92 (by kernel_rfl)
      have e118 : a.tmps.getD 118 undef = .agg #[.int .u64 (S3 / 18446744073709551616), .int .u64 (S3 % 18446744073709551616)] := h.dep 118 (by kernel_rfl)
      have e145 : a.tmps.getD 145 undef = .agg #[.int .u64 (S4 / 18446744073709551616), .int .u64 (S4 % 18446744073709551616)] := h.dep 145 (by kernel_rfl)
      refine ⟨.agg #[.int .u64 (S0 / 18446744073709551616), .int .u64 (S0 % 18446744073709551616), .int .u64 (S1 / 18446744073709551616), .int .u64 (S1 % 18446744073709551616), .int .u64 (S2 / 18446744073709551616), .int .u64 (S2 % 18446744073709551616), .int .u64 (S3 / 18446744073709551616), .int .u64 (S3 % 18446744073709551616), .int .u64 (S4 / 18446744073709551616), .int .u64 (S4 % 18446744073709551616)], w, ?_, h.base, Or.inl (gb_refl _ _), rfl⟩
      clear h
      simp only [execOp, List.map_toArray, List.map_cons, List.map_nil, Act.eval, e43, e67, e92, e118, e145]
      go_simp
    refine ⟨flow_call rfl rfl fun a w h => ?_, ?_⟩
    · have e146 : a.tmps.getD 146 undef = .agg #[.int .u64 (S0 / 18446744073709551616), .int .u64 (S0 % 18446744073709551616), .int .u64 (S1 / 18446744073709551616), .int .u64 (S1 % 18446744073709551616), .int .u64 (S2 / 18446744073709551616), .int .u64 (S2 % 18446744073709551616), .int .u64 (S3 / 18446744073709551616), .int .u64 (S3 % 18446744073709551616), .int .u64 (S4 / 18446744073709551616), .int .u64 (S4 % 18446744073709551616)] := h.dep 146 (by kernel_rfl)
      have hb := h.base
      refine ⟨79, #[.agg #[.int .u64 (S0 / 18446744073709551616), .int .u64 (S0 % 18446744073709551616), .int .u64 (S1 / 18446744073709551616), .int .u64 (S1 % 18446744073709551616), .int .u64 (S2 / 18446744073709551616), .int .u64 (S2 % 18446744073709551616), .int .u64 (S3 / 18446744073709551616), .int .u64 (S3 % 18446744073709551616), .int .u64 (S4 / 18446744073709551616), .int .u64 (S4 % 18446744073709551616)]], ?_, ?_⟩
      · clear h hb
        have e146x : a.tmps[146]?.getD undef = .agg #[.int .u64 (S0 / 18446744073709551616), .int .u64 (S0 % 18446744073709551616), .int .u64 (S1 / 18446744073709551616), .int .u64 (S1 % 18446744073709551616), .int .u64 (S2 / 18446744073709551616), .int .u64 (S2 % 18446744073709551616), .int .u64 (S3 / 18446744073709551616), .int .u64 (S3 % 18446744073709551616), .int .u64 (S4 / 18446744073709551616), .int .u64 (S4 % 18446744073709551616)] := by simpa using e146
        clear e146
        go_simp
      · refine (join_sums S0 S1 S2 S3 S4 w (by assumption) (by assumption) (by assumption) (by assumption) (by assumption)).mono ?_
        rintro e w1 ⟨rfl, hg⟩
        exact ⟨_, rfl, hb.grown hg, Or.inl hg, by show Fe.v _ = Fe.v _; rw [Hr.out]⟩
    refine ⟨flow_skip rfl rfl fun a w h => ?_, ?_⟩
    · have e147 : a.tmps.getD 147 undef = .agg #[.int .u64 r.x0, .int .u64 r.x1, .int .u64 r.x2, .int .u64 r.x3, .int .u64 r.x4] := h.dep 147 (by kernel_rfl)
      have e4 : a.tmps.getD 4 undef = .pointer (some ⟨R, 0, none⟩) := h.rest 4 (by kernel_rfl)
      obtain ⟨u0, u1, u2, u3, u4, hR⟩ := h.base.r
      have c0r := hR.cell (i := 0) rfl; have f0r := hR.free 0
      have c1r := hR.cell (i := 1) rfl; have f1r := hR.free 1
      have c2r := hR.cell (i := 2) rfl; have f2r := hR.free 2
      have c3r := hR.cell (i := 3) rfl; have f3r := hR.free 3
      have c4r := hR.cell (i := 4) rfl; have f4r := hR.free 4
      refine ⟨_, ?_, h.base.set5 _ _ _ _ _, Or.inr ⟨gb_set (gb_set (gb_set (gb_set (gb_set (gb_refl _ _) _ _) _ _) _ _) _ _) _ _, h.base.r.set5 _ _ _ _ _⟩, h.base.r.set5 _ _ _ _ _⟩
      clear h
      simp only [execOp, Act.eval, e147, e4]
      go_simp
    trivial
  · intro a w1 hB hsz hdf hrest hslots hmems
    have hM := hmems 127 _ rfl rfl
    have eR0 : a.tmps.getD 4 undef = .pointer (some ⟨(w.heap.size + 1 + 1), 0, none⟩) := hrest 4 (by kernel_rfl)
    have hg := hB.g
    clear hmems hslots hrest hB
    have eR1 : a.tmps[4]?.getD undef = .pointer (some ⟨(w.heap.size + 1 + 1), 0, none⟩) := by simpa using eR0
    have z0 := hM.cell (i := 0) rfl
    have z1 := hM.cell (i := 1) rfl
    have z2 := hM.cell (i := 2) rfl
    have z3 := hM.cell (i := 3) rfl
    have z4 := hM.cell (i := 4) rfl
    clear hM
    go_wp2
    refine bodyPost_ret (v := .agg #[.int .u64 r.x0, .int .u64 r.x1, .int .u64 r.x2, .int .u64 r.x3, .int .u64 r.x4]) ?_ (by rw [hdf]) ⟨r, ?_, rfl, hg⟩
    · simp [results, Tryz.results35, go_sem, eR1, z0, z1, z2, z3, z4]
    · rw [Hr.out, ← HS0.out, ← HS1.out, ← HS2.out, ← HS3.out, ← HS4.out, ← Hz0.out, ← Hz1.out, ← Hz2.out, ← Hz3.out]
      simp only [wrapw]
      rfl
end Go.Proofs.YtcmnecnbcohaeaaGreatDoor

/- field: Square. (Laid by gen_mul.py over the operations of the function.) -/
namespace Go.Proofs.YtcmnecnbcohaeaaGreatDoor
open Go.RowKit
/-- what each slot of the great region of Square has -/
def sqG (A R : Nat) (x0 x1 x2 x3 x4 z0 z1 z2 z3 z4 z5 S0 S1 S2 S3 S4 : Int) (r : Fe) : List (Value → World → Prop) := [
  fun _ _ => True,
  fun _ _ => True,
  fun _ _ => True,
  fun _ _ => True,
  fun _ _ => True,
  fun _ _ => True,
  fun _ _ => True,
  fun _ _ => True,
  fun _ _ => True,
  fun _ _ => True,
  fun _ _ => True,
  fun _ _ => True,
  fun _ _ => True,
  fun _ _ => True,
  fun _ _ => True,
  fun _ _ => True,
  fun _ _ => True,
  fun _ _ => True,
  fun _ _ => True,
  fun v _ => v = .pointer (some ⟨A, 0, none⟩),
  fun v _ => v = .int .u64 x0,
  fun v _ => v = .pointer (some ⟨A, 0, none⟩),
  fun v _ => v = .int .u64 x0,
  fun v _ => v = .agg #[.int .u64 x0, .int .u64 x0],
  fun v _ => v = .int .u64 z1,
  fun v _ => v = .int .u64 z3,
  fun v _ => v = .agg #[.int .u64 z1, .int .u64 z3],
  fun v _ => v = .pointer (some ⟨A, 2, none⟩),
  fun v _ => v = .int .u64 x2,
  fun v _ => v = .int .u64 z4,
  fun v _ => v = .int .u64 z2,
  fun v _ => v = .agg #[.int .u64 z4, .int .u64 z2],
  fun v w => ∃ PB, PB ≠ R ∧ v = .slice (some ⟨PB, 0, none⟩) 3 3 ∧ Blk w PB 128 (flat [(x0, x0), (z1, z3), (z4, z2)]),
  fun v _ => v = .agg #[.int .u64 (S0 / 18446744073709551616), .int .u64 (S0 % 18446744073709551616)],
  fun v _ => v = .int .u64 z0,
  fun v _ => v = .pointer (some ⟨A, 1, none⟩),
  fun v _ => v = .int .u64 x1,
  fun v _ => v = .agg #[.int .u64 z0, .int .u64 x1],
  fun v _ => v = .pointer (some ⟨A, 2, none⟩),
  fun v _ => v = .int .u64 x2,
  fun v _ => v = .int .u64 z4,
  fun v _ => v = .int .u64 z3,
  fun v _ => v = .agg #[.int .u64 z4, .int .u64 z3],
  fun v _ => v = .pointer (some ⟨A, 3, none⟩),
  fun v _ => v = .int .u64 x3,
  fun v _ => v = .int .u64 z2,
  fun v _ => v = .agg #[.int .u64 x3, .int .u64 z2],
  fun v w => ∃ PB, PB ≠ R ∧ v = .slice (some ⟨PB, 0, none⟩) 3 3 ∧ Blk w PB 128 (flat [(z0, x1), (z4, z3), (x3, z2)]),
  fun v _ => v = .agg #[.int .u64 (S1 / 18446744073709551616), .int .u64 (S1 % 18446744073709551616)],
  fun v _ => v = .int .u64 z0,
  fun v _ => v = .pointer (some ⟨A, 2, none⟩),
  fun v _ => v = .int .u64 x2,
  fun v _ => v = .agg #[.int .u64 z0, .int .u64 x2],
  fun v _ => v = .pointer (some ⟨A, 1, none⟩),
  fun v _ => v = .int .u64 x1,
  fun v _ => v = .pointer (some ⟨A, 1, none⟩),
  fun v _ => v = .int .u64 x1,
  fun v _ => v = .agg #[.int .u64 x1, .int .u64 x1],
  fun v _ => v = .pointer (some ⟨A, 3, none⟩),
  fun v _ => v = .int .u64 x3,
  fun v _ => v = .int .u64 z5,
  fun v _ => v = .int .u64 z3,
  fun v _ => v = .agg #[.int .u64 z5, .int .u64 z3],
  fun v w => ∃ PB, PB ≠ R ∧ v = .slice (some ⟨PB, 0, none⟩) 3 3 ∧ Blk w PB 128 (flat [(z0, x2), (x1, x1), (z5, z3)]),
  fun v _ => v = .agg #[.int .u64 (S2 / 18446744073709551616), .int .u64 (S2 % 18446744073709551616)],
  fun v _ => v = .int .u64 z0,
  fun v _ => v = .pointer (some ⟨A, 3, none⟩),
  fun v _ => v = .int .u64 x3,
  fun v _ => v = .agg #[.int .u64 z0, .int .u64 x3],
  fun v _ => v = .int .u64 z1,
  fun v _ => v = .pointer (some ⟨A, 2, none⟩),
  fun v _ => v = .int .u64 x2,
  fun v _ => v = .agg #[.int .u64 z1, .int .u64 x2],
  fun v _ => v = .pointer (some ⟨A, 4, none⟩),
  fun v _ => v = .int .u64 x4,
  fun v _ => v = .int .u64 z3,
  fun v _ => v = .agg #[.int .u64 x4, .int .u64 z3],
  fun v w => ∃ PB, PB ≠ R ∧ v = .slice (some ⟨PB, 0, none⟩) 3 3 ∧ Blk w PB 128 (flat [(z0, x3), (z1, x2), (x4, z3)]),
  fun v _ => v = .agg #[.int .u64 (S3 / 18446744073709551616), .int .u64 (S3 % 18446744073709551616)],
  fun v _ => v = .int .u64 z0,
  fun v _ => v = .pointer (some ⟨A, 4, none⟩),
  fun v _ => v = .int .u64 x4,
  fun v _ => v = .agg #[.int .u64 z0, .int .u64 x4],
  fun v _ => v = .int .u64 z1,
  fun v _ => v = .pointer (some ⟨A, 3, none⟩),
  fun v _ => v = .int .u64 x3,
  fun v _ => v = .agg #[.int .u64 z1, .int .u64 x3],
  fun v _ => v = .pointer (some ⟨A, 2, none⟩),
  fun v _ => v = .int .u64 x2,
  fun v _ => v = .pointer (some ⟨A, 2, none⟩),
  fun v _ => v = .int .u64 x2,
  fun v _ => v = .agg #[.int .u64 x2, .int .u64 x2],
  fun v w => ∃ PB, PB ≠ R ∧ v = .slice (some ⟨PB, 0, none⟩) 3 3 ∧ Blk w PB 128 (flat [(z0, x4), (z1, x3), (x2, x2)]),
  fun v _ => v = .agg #[.int .u64 (S4 / 18446744073709551616), .int .u64 (S4 % 18446744073709551616)],
  fun v _ => v = .agg #[.int .u64 (S0 / 18446744073709551616), .int .u64 (S0 % 18446744073709551616), .int .u64 (S1 / 18446744073709551616), .int .u64 (S1 % 18446744073709551616), .int .u64 (S2 / 18446744073709551616), .int .u64 (S2 % 18446744073709551616), .int .u64 (S3 / 18446744073709551616), .int .u64 (S3 % 18446744073709551616), .int .u64 (S4 / 18446744073709551616), .int .u64 (S4 % 18446744073709551616)],
  fun v _ => v = r.v]
def sqAt (A R : Nat) (x0 x1 x2 x3 x4 z0 z1 z2 z3 z4 z5 S0 S1 S2 S3 S4 : Int) (r : Fe) (d : Nat) (v : Value) (w : World) : Prop := ((sqG A R x0 x1 x2 x3 x4 z0 z1 z2 z3 z4 z5 S0 S1 S2 S3 S4 r).getD d (fun _ _ => True)) v w
structure sqB (w0 : World) (A R : Nat) (x0 x1 x2 x3 x4 : Int) (w : World) : Prop where
  a : Blk w A 27 [.int .u64 x0, .int .u64 x1, .int .u64 x2, .int .u64 x3, .int .u64 x4]
  r : Room5 w R 27
  g : w0.grownBy w none
  ra : A ≠ R
  rn : w0.heap.size ≤ R
theorem sqB.grown {w0 : World} {A R : Nat} {x0 x1 x2 x3 x4 : Int} {w w' : World} (h : sqB w0 A R x0 x1 x2 x3 x4 w) (hg : w.grownBy w' none) : sqB w0 A R x0 x1 x2 x3 x4 w' :=
  ⟨h.a.grown hg (by simp), h.r.grown hg (by simp), gb_trans h.g hg, h.ra, h.rn⟩
theorem sqB.alloc {w0 : World} {A R : Nat} {x0 x1 x2 x3 x4 : Int} {w : World} (h : sqB w0 A R x0 x1 x2 x3 x4 w) (o : Obj) : sqB w0 A R x0 x1 x2 x3 x4 (w.alloc o) := h.grown (World.grownBy_alloc _ _ _)
theorem sqB.set5 {w0 : World} {A R : Nat} {x0 x1 x2 x3 x4 : Int} {w : World} (h : sqB w0 A R x0 x1 x2 x3 x4 w) (v0 v1 v2 v3 v4 : Value) :
    sqB w0 A R x0 x1 x2 x3 x4 (((((w.setCell ⟨R, 0, none⟩ v0).setCell ⟨R, 1, none⟩ v1).setCell ⟨R, 2, none⟩ v2).setCell ⟨R, 3, none⟩ v3).setCell ⟨R, 4, none⟩ v4) :=
  ⟨((((h.a.other (Ne.symm h.ra) _).other (Ne.symm h.ra) _).other (Ne.symm h.ra) _).other (Ne.symm h.ra) _).other (Ne.symm h.ra) _,
   ⟨_, _, _, _, _, h.r.set5 v0 v1 v2 v3 v4⟩, gb_set_new (gb_set_new (gb_set_new (gb_set_new (gb_set_new h.g h.rn _) h.rn _) h.rn _) h.rn _) h.rn _, h.ra, h.rn⟩

theorem sq_stable (A R : Nat) (x0 x1 x2 x3 x4 z0 z1 z2 z3 z4 z5 S0 S1 S2 S3 S4 : Int) (r : Fe) (d : Nat) (u : Value) (w w' : World) (hR : w.grownBy w' (some R)) (h : sqAt A R x0 x1 x2 x3 x4 z0 z1 z2 z3 z4 z5 S0 S1 S2 S3 S4 r d u w) : sqAt A R x0 x1 x2 x3 x4 z0 z1 z2 z3 z4 z5 S0 S1 S2 S3 S4 r d u w' :=
  stable_get (R := R) _ (show Stable R (sqG A R x0 x1 x2 x3 x4 z0 z1 z2 z3 z4 z5 S0 S1 S2 S3 S4 r) from ⟨fun _ _ _ _ h => h, fun _ _ _ _ h => h, fun _ _ _ _ h => h, fun _ _ _ _ h => h, fun _ _ _ _ h => h, fun _ _ _ _ h => h, fun _ _ _ _ h => h, fun _ _ _ _ h => h, fun _ _ _ _ h => h, fun _ _ _ _ h => h, fun _ _ _ _ h => h, fun _ _ _ _ h => h, fun _ _ _ _ h => h, fun _ _ _ _ h => h, fun _ _ _ _ h => h, fun _ _ _ _ h => h, fun _ _ _ _ h => h, fun _ _ _ _ h => h, fun _ _ _ _ h => h, fun _ _ _ _ h => h, fun _ _ _ _ h => h, fun _ _ _ _ h => h, fun _ _ _ _ h => h, fun _ _ _ _ h => h, fun _ _ _ _ h => h, fun _ _ _ _ h => h, fun _ _ _ _ h => h, fun _ _ _ _ h => h, fun _ _ _ _ h => h, fun _ _ _ _ h => h, fun _ _ _ _ h => h, fun _ _ _ _ h => h, fun _ _ _ hR ⟨PB, hne, hv, hb⟩ => ⟨PB, hne, hv, hb.grown hR (some_ne hne)⟩, fun _ _ _ _ h => h, fun _ _ _ _ h => h, fun _ _ _ _ h => h, fun _ _ _ _ h => h, fun _ _ _ _ h => h, fun _ _ _ _ h => h, fun _ _ _ _ h => h, fun _ _ _ _ h => h, fun _ _ _ _ h => h, fun _ _ _ _ h => h, fun _ _ _ _ h => h, fun _ _ _ _ h => h, fun _ _ _ _ h => h, fun _ _ _ _ h => h, fun _ _ _ hR ⟨PB, hne, hv, hb⟩ => ⟨PB, hne, hv, hb.grown hR (some_ne hne)⟩, fun _ _ _ _ h => h, fun _ _ _ _ h => h, fun _ _ _ _ h => h, fun _ _ _ _ h => h, fun _ _ _ _ h => h, fun _ _ _ _ h => h, fun _ _ _ _ h => h, fun _ _ _ _ h => h, fun _ _ _ _ h => h, fun _ _ _ _ h => h, fun _ _ _ _ h => h, fun _ _ _ _ h => h, fun _ _ _ _ h => h, fun _ _ _ _ h => h, fun _ _ _ _ h => h, fun _ _ _ hR ⟨PB, hne, hv, hb⟩ => ⟨PB, hne, hv, hb.grown hR (some_ne hne)⟩, fun _ _ _ _ h => h, fun _ _ _ _ h => h, fun _ _ _ _ h => h, fun _ _ _ _ h => h, fun _ _ _ _ h => h, fun _ _ _ _ h => h, fun _ _ _ _ h => h, fun _ _ _ _ h => h, fun _ _ _ _ h => h, fun _ _ _ _ h => h, fun _ _ _ _ h => h, fun _ _ _ _ h => h, fun _ _ _ _ h => h, fun _ _ _ hR ⟨PB, hne, hv, hb⟩ => ⟨PB, hne, hv, hb.grown hR (some_ne hne)⟩, fun _ _ _ _ h => h, fun _ _ _ _ h => h, fun _ _ _ _ h => h, fun _ _ _ _ h => h, fun _ _ _ _ h => h, fun _ _ _ _ h => h, fun _ _ _ _ h => h, fun _ _ _ _ h => h, fun _ _ _ _ h => h, fun _ _ _ _ h => h, fun _ _ _ _ h => h, fun _ _ _ _ h => h, fun _ _ _ _ h => h, fun _ _ _ _ h => h, fun _ _ _ hR ⟨PB, hne, hv, hb⟩ => ⟨PB, hne, hv, hb.grown hR (some_ne hne)⟩, fun _ _ _ _ h => h, fun _ _ _ _ h => h, fun _ _ _ _ h => h, trivial⟩) d u w w' hR h


set_option maxRecDepth 100000 in
set_option maxHeartbeats 4000000 in
theorem sq_any (x0 x1 x2 x3 x4 : Int) (w : World) (a0 : 0 ≤ x0) (c0 : x0 < 18446744073709551616) (a1 : 0 ≤ x1) (c1 : x1 < 18446744073709551616) (a2 : 0 ≤ x2) (c2 : x2 < 18446744073709551616) (a3 : 0 ≤ x3) (c3 : x3 < 18446744073709551616) (a4 : 0 ≤ x4) (c4 : x4 < 18446744073709551616) :
    Calls Tryz.prog 38 #[.agg #[.int .u64 x0, .int .u64 x1, .int .u64 x2, .int .u64 x3, .int .u64 x4]] w (FeOut (Fe.sqF ⟨x0, x1, x2, x3, x4⟩) w) := by
  obtain ⟨z0, hz0⟩ : ∃ z, IntKind.u64.wrap (2 * x0) = z := ⟨_, rfl⟩
  have pz0 : 0 ≤ z0 := by rw [← hz0, wrapw]; unfold Fe.w64; omega
  have qz0 : z0 < 18446744073709551616 := by rw [← hz0, wrapw]; unfold Fe.w64; omega
  obtain ⟨z1, hz1⟩ : ∃ z, IntKind.u64.wrap (2 * x1) = z := ⟨_, rfl⟩
  have pz1 : 0 ≤ z1 := by rw [← hz1, wrapw]; unfold Fe.w64; omega
  have qz1 : z1 < 18446744073709551616 := by rw [← hz1, wrapw]; unfold Fe.w64; omega
  obtain ⟨z2, hz2⟩ : ∃ z, IntKind.u64.wrap (19 * x3) = z := ⟨_, rfl⟩
  have pz2 : 0 ≤ z2 := by rw [← hz2, wrapw]; unfold Fe.w64; omega
  have qz2 : z2 < 18446744073709551616 := by rw [← hz2, wrapw]; unfold Fe.w64; omega
  obtain ⟨z3, hz3⟩ : ∃ z, IntKind.u64.wrap (19 * x4) = z := ⟨_, rfl⟩
  have pz3 : 0 ≤ z3 := by rw [← hz3, wrapw]; unfold Fe.w64; omega
  have qz3 : z3 < 18446744073709551616 := by rw [← hz3, wrapw]; unfold Fe.w64; omega
  obtain ⟨z4, hz4⟩ : ∃ z, IntKind.u64.wrap (2 * x2) = z := ⟨_, rfl⟩
  have pz4 : 0 ≤ z4 := by rw [← hz4, wrapw]; unfold Fe.w64; omega
  have qz4 : z4 < 18446744073709551616 := by rw [← hz4, wrapw]; unfold Fe.w64; omega
  obtain ⟨z5, hz5⟩ : ∃ z, IntKind.u64.wrap (2 * x3) = z := ⟨_, rfl⟩
  have pz5 : 0 ≤ z5 := by rw [← hz5, wrapw]; unfold Fe.w64; omega
  have qz5 : z5 < 18446744073709551616 := by rw [← hz5, wrapw]; unfold Fe.w64; omega
  obtain ⟨S0, hS0⟩ : ∃ S, sumL [(x0, x0), (z1, z3), (z4, z2)] = S := ⟨_, rfl⟩
  obtain ⟨S1, hS1⟩ : ∃ S, sumL [(z0, x1), (z4, z3), (x3, z2)] = S := ⟨_, rfl⟩
  obtain ⟨S2, hS2⟩ : ∃ S, sumL [(z0, x2), (x1, x1), (z5, z3)] = S := ⟨_, rfl⟩
  obtain ⟨S3, hS3⟩ : ∃ S, sumL [(z0, x3), (z1, x2), (x4, z3)] = S := ⟨_, rfl⟩
  obtain ⟨S4, hS4⟩ : ∃ S, sumL [(z0, x4), (z1, x3), (x2, x2)] = S := ⟨_, rfl⟩
  obtain ⟨r, hr⟩ : ∃ r, r = Fe.joinF S0 S1 S2 S3 S4 := ⟨_, rfl⟩
  have HS0 := Lib.hid hS0; clear hS0
  have HS1 := Lib.hid hS1; clear hS1
  have HS2 := Lib.hid hS2; clear hS2
  have HS3 := Lib.hid hS3; clear hS3
  have HS4 := Lib.hid hS4; clear hS4
  have Hr := Lib.hid hr; clear hr
  have iS0 : Is128 S0 := by rw [← HS0.out]; exact ⟨(sumL_bd _).1, (sumL_bd _).2⟩
  have iS1 : Is128 S1 := by rw [← HS1.out]; exact ⟨(sumL_bd _).1, (sumL_bd _).2⟩
  have iS2 : Is128 S2 := by rw [← HS2.out]; exact ⟨(sumL_bd _).1, (sumL_bd _).2⟩
  have iS3 : Is128 S3 := by rw [← HS3.out]; exact ⟨(sumL_bd _).1, (sumL_bd _).2⟩
  have iS4 : Is128 S4 := by rw [← HS4.out]; exact ⟨(sumL_bd _).1, (sumL_bd _).2⟩
  have Hz0 := Lib.hid hz0; clear hz0
  have Hz1 := Lib.hid hz1; clear hz1
  have Hz2 := Lib.hid hz2; clear hz2
  have Hz3 := Lib.hid hz3; clear hz3
  have Hz4 := Lib.hid hz4; clear hz4
  have Hz5 := Lib.hid hz5; clear hz5
  go_enter Tryz.func38, Tryz.ntmps38
  have hB0 : sqB w w.heap.size (w.heap.size + 1) x0 x1 x2 x3 x4 ((w.alloc (.cells #[.int .u64 x0, .int .u64 x1, .int .u64 x2, .int .u64 x3, .int .u64 x4] 27)).alloc (.cells #[.int .u64 0, .int .u64 0, .int .u64 0, .int .u64 0, .int .u64 0] 27)) :=
    ⟨(Blk.new w [.int .u64 x0, .int .u64 x1, .int .u64 x2, .int .u64 x3, .int .u64 x4] _).alloc _, ⟨_, _, _, _, _, Blk.newAt _ [.int .u64 0, .int .u64 0, .int .u64 0, .int .u64 0, .int .u64 0] _ (by simp)⟩, gb_alloc (gb_alloc (gb_refl _ _) _) _, by omega, by omega⟩
  go_wp2
  go_quiet (fail)
  go_wp2
  go_quiet (fail)
  go_wp2
  refine wp_region_flow (sqAt w.heap.size (w.heap.size + 1) x0 x1 x2 x3 x4 z0 z1 z2 z3 z4 z5 S0 S1 S2 S3 S4 r) (fun _ w' => Blk w' (w.heap.size + 1) 27 [.int .u64 r.x0, .int .u64 r.x1, .int .u64 r.x2, .int .u64 r.x3, .int .u64 r.x4])
    (sqB w w.heap.size (w.heap.size + 1) x0 x1 x2 x3 x4) (fun w' w'' => w'.grownBy w'' none ∨ (w'.grownBy w'' (some (w.heap.size + 1)) ∧ Blk w'' (w.heap.size + 1) 27 [.int .u64 r.x0, .int .u64 r.x1, .int .u64 r.x2, .int .u64 r.x3, .int .u64 r.x4])) (by kernel_rfl) (by kernel_rfl) (by kernel_rfl) (((hB0.grown (gb_drewN (gb_refl _ none) _)).grown (gb_drewN (gb_refl _ none) _)).grown (gb_drew (gb_refl _ none))) ?_ ?_ ?_ ?_
  · exact fun d u w1 w2 hR h => sq_stable _ _ _ _ _ _ _ _ _ _ _ _ _ _ _ _ _ _ r d u w1 w2 (hR.elim (fun h => gb_row h _) (fun h => h.1)) h
  · exact fun j w1 w2 hR h => hR.elim (fun hg => h.grown hg (by simp)) (fun h => h.2)
  · clear hB0
    generalize w.heap.size = A
    generalize eR : A + 1 = R
    refine ⟨flow_value rfl rfl fun a w h => ?_, ?_⟩
    · have e1 : a.tmps.getD 1 undef = .pointer (some ⟨A, 0, none⟩) := h.rest 1 (by kernel_rfl)
      refine ⟨.pointer (some ⟨A, 0, none⟩), w, ?_, h.base, Or.inl (gb_refl _ _), rfl⟩
      clear h
      simp only [execOp, Act.eval, e1]
      go_simp
    refine ⟨flow_value rfl rfl fun a w h => ?_, ?_⟩
    · have e19 : a.tmps.getD 19 undef = .pointer (some ⟨A, 0, none⟩) := h.dep 19 (by kernel_rfl)
      have c := h.base.a.cell (i := 0) rfl
      refine ⟨.int .u64 x0, w, ?_, h.base, Or.inl (gb_refl _ _), rfl⟩
      clear h
      simp only [execOp, Act.eval, e19]
      go_simp
    refine ⟨flow_value rfl rfl fun a w h => ?_, ?_⟩
    · have e1 : a.tmps.getD 1 undef = .pointer (some ⟨A, 0, none⟩) := h.rest 1 (by kernel_rfl)
      refine ⟨.pointer (some ⟨A, 0, none⟩), w, ?_, h.base, Or.inl (gb_refl _ _), rfl⟩
      clear h
      simp only [execOp, Act.eval, e1]
      go_simp
    refine ⟨flow_value rfl rfl fun a w h => ?_, ?_⟩
    · have e21 : a.tmps.getD 21 undef = .pointer (some ⟨A, 0, none⟩) := h.dep 21 (by kernel_rfl)
      have c := h.base.a.cell (i := 0) rfl
      refine ⟨.int .u64 x0, w, ?_, h.base, Or.inl (gb_refl _ _), rfl⟩
      clear h
      simp only [execOp, Act.eval, e21]
      go_simp
    refine ⟨flow_value rfl rfl fun a w h => ?_, ?_⟩
    · have e20 : a.tmps.getD 20 undef = .int .u64 x0 := h.dep 20 (by kernel_rfl)
      have e22 : a.tmps.getD 22 undef = .int .u64 x0 := h.dep 22 (by kernel_rfl)
      refine ⟨.agg #[.int .u64 x0, .int .u64 x0], w, ?_, h.base, Or.inl (gb_refl _ _), rfl⟩
      clear h
      simp only [execOp, List.map_toArray, List.map_cons, List.map_nil, Act.eval, e20, e22]
      go_simp
    refine ⟨flow_value rfl rfl fun a w h => ?_, ?_⟩
    · have e4 : a.tmps.getD 4 undef = .int .u64 z1 := (h.rest 4 (by kernel_rfl)).trans (congrArg (Value.int .u64) Hz1.out)
      refine ⟨.int .u64 z1, w, ?_, h.base, Or.inl (gb_refl _ _), rfl⟩
      clear h
      simp only [execOp, Act.eval, e4]
      go_simp
    refine ⟨flow_value rfl rfl fun a w h => ?_, ?_⟩
    · have e6 : a.tmps.getD 6 undef = .int .u64 z3 := (h.rest 6 (by kernel_rfl)).trans (congrArg (Value.int .u64) Hz3.out)
      refine ⟨.int .u64 z3, w, ?_, h.base, Or.inl (gb_refl _ _), rfl⟩
      clear h
      simp only [execOp, Act.eval, e6]
      go_simp
    refine ⟨flow_value rfl rfl fun a w h => ?_, ?_⟩
    · have e24 : a.tmps.getD 24 undef = .int .u64 z1 := h.dep 24 (by kernel_rfl)
      have e25 : a.tmps.getD 25 undef = .int .u64 z3 := h.dep 25 (by kernel_rfl)
      refine ⟨.agg #[.int .u64 z1, .int .u64 z3], w, ?_, h.base, Or.inl (gb_refl _ _), rfl⟩
      clear h
      simp only [execOp, List.map_toArray, List.map_cons, List.map_nil, Act.eval, e24, e25]
      go_simp
    refine ⟨flow_value rfl rfl fun a w h => ?_, ?_⟩
    · have e1 : a.tmps.getD 1 undef = .pointer (some ⟨A, 0, none⟩) := h.rest 1 (by kernel_rfl)
      refine ⟨.pointer (some ⟨A, 2, none⟩), w, ?_, h.base, Or.inl (gb_refl _ _), rfl⟩
      clear h
      simp only [execOp, Act.eval, e1]
      go_simp
    refine ⟨flow_value rfl rfl fun a w h => ?_, ?_⟩
    · have e27 : a.tmps.getD 27 undef = .pointer (some ⟨A, 2, none⟩) := h.dep 27 (by kernel_rfl)
      have c := h.base.a.cell (i := 2) rfl
      refine ⟨.int .u64 x2, w, ?_, h.base, Or.inl (gb_refl _ _), rfl⟩
      clear h
      simp only [execOp, Act.eval, e27]
      go_simp
    refine ⟨flow_value rfl rfl fun a w h => ?_, ?_⟩
    · have e28 : a.tmps.getD 28 undef = .int .u64 x2 := h.dep 28 (by kernel_rfl)
      refine ⟨.int .u64 (IntKind.u64.wrap (2 * x2)), w, ?_, h.base, Or.inl (gb_refl _ _), congrArg (Value.int .u64) Hz4.out⟩
      clear h
      simp only [execOp, Act.eval, e28]
      go_simp
    refine ⟨flow_value rfl rfl fun a w h => ?_, ?_⟩
    · have e5 : a.tmps.getD 5 undef = .int .u64 z2 := (h.rest 5 (by kernel_rfl)).trans (congrArg (Value.int .u64) Hz2.out)
      refine ⟨.int .u64 z2, w, ?_, h.base, Or.inl (gb_refl _ _), rfl⟩
      clear h
      simp only [execOp, Act.eval, e5]
      go_simp
    refine ⟨flow_value rfl rfl fun a w h => ?_, ?_⟩
    · have e29 : a.tmps.getD 29 undef = .int .u64 z4 := h.dep 29 (by kernel_rfl)
      have e30 : a.tmps.getD 30 undef = .int .u64 z2 := h.dep 30 (by kernel_rfl)
      refine ⟨.agg #[.int .u64 z4, .int .u64 z2], w, ?_, h.base, Or.inl (gb_refl _ _), rfl⟩
      clear h
      simp only [execOp, List.map_toArray, List.map_cons, List.map_nil, Act.eval, e29, e30]
      go_simp
    refine ⟨flow_value rfl rfl fun a w h => ?_, ?_⟩
    · have e23 : a.tmps.getD 23 undef = .agg #[.int .u64 x0, .int .u64 x0] := h.dep 23 (by kernel_rfl)
      have e26 : a.tmps.getD 26 undef = .agg #[.int .u64 z1, .int .u64 z3] := h.dep 26 (by kernel_rfl)
      have e31 : a.tmps.getD 31 undef = .agg #[.int .u64 z4, .int .u64 z2] := h.dep 31 (by kernel_rfl)
      obtain ⟨_, _, _, _, _, hr5⟩ := h.base.r
      have hs := hr5.lt
      refine ⟨.slice (some ⟨w.heap.size, 0, none⟩) 3 3, w.alloc (.cells #[.int .u64 x0, .int .u64 x0, .int .u64 z1, .int .u64 z3, .int .u64 z4, .int .u64 z2] 128), ?_, h.base.alloc _, Or.inl (World.grownBy_alloc _ _ _), ⟨w.heap.size, by omega, rfl, Blk.new w _ _⟩⟩
      clear h
      simp only [execOp, List.map_toArray, List.map_cons, List.map_nil, Act.eval, e23, e26, e31]
      go_simp
    refine ⟨flow_call rfl rfl fun a w h => ?_, ?_⟩
    · obtain ⟨PB, hne, e32, hP⟩ : ∃ PB, PB ≠ R ∧ a.tmps.getD 32 undef = .slice (some ⟨PB, 0, none⟩) 3 3 ∧ Blk w PB 128 (flat [(x0, x0), (z1, z3), (z4, z2)]) := h.dep 32 (by kernel_rfl)
      have hb := h.base
      refine ⟨80, #[.slice (some ⟨PB, 0, none⟩) 3 3], ?_, ?_⟩
      · clear h hb hP
        have e32x : a.tmps[32]?.getD undef = .slice (some ⟨PB, 0, none⟩) 3 3 := by simpa using e32
        clear e32
        go_simp
      · refine (sumUp_any PB 3 _ w _ rfl (by decide) hP ?_).mono ?_
        · intro p hp; simp only [List.mem_cons, List.not_mem_nil, or_false] at hp; rcases hp with rfl | rfl | rfl <;> exact ⟨by assumption, by assumption, by assumption, by assumption⟩
        · rintro e w1 ⟨rfl, hg⟩; exact ⟨_, rfl, hb.grown hg, Or.inl hg, by show sumV _ = _; rw [HS0.out]; rfl⟩
    refine ⟨flow_value rfl rfl fun a w h => ?_, ?_⟩
    · have e3 : a.tmps.getD 3 undef = .int .u64 z0 := (h.rest 3 (by kernel_rfl)).trans (congrArg (Value.int .u64) Hz0.out)
      refine ⟨.int .u64 z0, w, ?_, h.base, Or.inl (gb_refl _ _), rfl⟩
      clear h
      simp only [execOp, Act.eval, e3]
      go_simp
    refine ⟨flow_value rfl rfl fun a w h => ?_, ?_⟩
    · have e1 : a.tmps.getD 1 undef = .pointer (some ⟨A, 0, none⟩) := h.rest 1 (by kernel_rfl)
      refine ⟨.pointer (some ⟨A, 1, none⟩), w, ?_, h.base, Or.inl (gb_refl _ _), rfl⟩
      clear h
      simp only [execOp, Act.eval, e1]
      go_simp
    refine ⟨flow_value rfl rfl fun a w h => ?_, ?_⟩
    · have e35 : a.tmps.getD 35 undef = .pointer (some ⟨A, 1, none⟩) := h.dep 35 (by kernel_rfl)
      have c := h.base.a.cell (i := 1) rfl
      refine ⟨.int .u64 x1, w, ?_, h.base, Or.inl (gb_refl _ _), rfl⟩
      clear h
      simp only [execOp, Act.eval, e35]
      go_simp
    refine ⟨flow_value rfl rfl fun a w h => ?_, ?_⟩
    · have e34 : a.tmps.getD 34 undef = .int .u64 z0 := h.dep 34 (by kernel_rfl)
      have e36 : a.tmps.getD 36 undef = .int .u64 x1 := h.dep 36 (by kernel_rfl)
      refine ⟨.agg #[.int .u64 z0, .int .u64 x1], w, ?_, h.base, Or.inl (gb_refl _ _), rfl⟩
      clear h
      simp only [execOp, List.map_toArray, List.map_cons, List.map_nil, Act.eval, e34, e36]
      go_simp
    refine ⟨flow_value rfl rfl fun a w h => ?_, ?_⟩
    · have e1 : a.tmps.getD 1 undef = .pointer (some ⟨A, 0, none⟩) := h.rest 1 (by kernel_rfl)
      refine ⟨.pointer (some ⟨A, 2, none⟩), w, ?_, h.base, Or.inl (gb_refl _ _), rfl⟩
      clear h
      simp only [execOp, Act.eval, e1]
      go_simp
    refine ⟨flow_value rfl rfl fun a w h => ?_, ?_⟩
    · have e38 : a.tmps.getD 38 undef = .pointer (some ⟨A, 2, none⟩) := h.dep 38 (by kernel_rfl)
      have c := h.base.a.cell (i := 2) rfl
      refine ⟨.int .u64 x2, w, ?_, h.base, Or.inl (gb_refl _ _), rfl⟩
      clear h
      simp only [execOp, Act.eval, e38]
      go_simp
    refine ⟨flow_value rfl rfl fun a w h => ?_, ?_⟩
    · have e39 : a.tmps.getD 39 undef = .int .u64 x2 := h.dep 39 (by kernel_rfl)
      refine ⟨.int .u64 (IntKind.u64.wrap (2 * x2)), w, ?_, h.base, Or.inl (gb_refl _ _), congrArg (Value.int .u64) Hz4.out⟩
      clear h
      simp only [execOp, Act.eval, e39]
      go_simp
    refine ⟨flow_value rfl rfl fun a w h => ?_, ?_⟩
    · have e6 : a.tmps.getD 6 undef = .int .u64 z3 := (h.rest 6 (by kernel_rfl)).trans (congrArg (Value.int .u64) Hz3.out)
      refine ⟨.int .u64 z3, w, ?_, h.base, Or.inl (gb_refl _ _), rfl⟩
      clear h
      simp only [execOp, Act.eval, e6]
      go_simp
    refine ⟨flow_value rfl rfl fun a w h => ?_, ?_⟩
    · have e40 : a.tmps.getD 40 undef = .int .u64 z4 := h.dep 40 (by kernel_rfl)
      have e41 : a.tmps.getD 41 undef = .int .u64 z3 := h.dep 41 (by kernel_rfl)
      refine ⟨.agg #[.int .u64 z4, .int .u64 z3], w, ?_, h.base, Or.inl (gb_refl _ _), rfl⟩
      clear h
      simp only [execOp, List.map_toArray, List.map_cons, List.map_nil, Act.eval, e40, e41]
      go_simp
    refine ⟨flow_value rfl rfl fun a w h => ?_, ?_⟩
    · have e1 : a.tmps.getD 1 undef = .pointer (some ⟨A, 0, none⟩) := h.rest 1 (by kernel_rfl)
      refine ⟨.pointer (some ⟨A, 3, none⟩), w, ?_, h.base, Or.inl (gb_refl _ _), rfl⟩
      clear h
      simp only [execOp, Act.eval, e1]
      go_simp
    refine ⟨flow_value rfl rfl fun a w h => ?_, ?_⟩
    · have e43 : a.tmps.getD 43 undef = .pointer (some ⟨A, 3, none⟩) := h.dep 43 (by kernel_rfl)
      have c := h.base.a.cell (i := 3) rfl
      refine ⟨.int .u64 x3, w, ?_, h.base, Or.inl (gb_refl _ _), rfl⟩
      clear h
      simp only [execOp, Act.eval, e43]
      go_simp
    refine ⟨flow_value rfl rfl fun a w h => ?_, ?_⟩
    · have e5 : a.tmps.getD 5 undef = .int .u64 z2 := (h.rest 5 (by kernel_rfl)).trans (congrArg (Value.int .u64) Hz2.out)
      refine ⟨.int .u64 z2, w, ?_, h.base, Or.inl (gb_refl _ _), rfl⟩
      clear h
      simp only [execOp, Act.eval, e5]
      go_simp
    refine ⟨flow_value rfl rfl fun a w h => ?_, ?_⟩
    · have e44 : a.tmps.getD 44 undef = .int .u64 x3 := h.dep 44 (by kernel_rfl)
      have e45 : a.tmps.getD 45 undef = .int .u64 z2 := h.dep 45 (by kernel_rfl)
      refine ⟨.agg #[.int .u64 x3, .int .u64 z2], w, ?_, h.base, Or.inl (gb_refl _ _), rfl⟩
      clear h
      simp only [execOp, List.map_toArray, List.map_cons, List.map_nil, Act.eval, e44, e45]
      go_simp
    refine ⟨flow_value rfl rfl fun a w h => ?_, ?_⟩
    · have e37 : a.tmps.getD 37 undef = .agg #[.int .u64 z0, .int .u64 x1] := h.dep 37 (by kernel_rfl)
      have e42 : a.tmps.getD 42 undef = .agg #[.int .u64 z4, .int .u64 z3] := h.dep 42 (by kernel_rfl)
      have e46 : a.tmps.getD 46 undef = .agg #[.int .u64 x3, .int .u64 z2] := h.dep 46 (by kernel_rfl)
      obtain ⟨_, _, _, _, _, hr5⟩ := h.base.r
      have hs := hr5.lt
      refine ⟨.slice (some ⟨w.heap.size, 0, none⟩) 3 3, w.alloc (.cells #[.int .u64 z0, .int .u64 x1, .int .u64 z4, .int .u64 z3, .int .u64 x3, .int .u64 z2] 128), ?_, h.base.alloc _, Or.inl (World.grownBy_alloc _ _ _), ⟨w.heap.size, by omega, rfl, Blk.new w _ _⟩⟩
      clear h
      simp only [execOp, List.map_toArray, List.map_cons, List.map_nil, Act.eval, e37, e42, e46]
      go_simp
    refine ⟨flow_call rfl rfl fun a w h => ?_, ?_⟩
    · obtain ⟨PB, hne, e47, hP⟩ : ∃ PB, PB ≠ R ∧ a.tmps.getD 47 undef = .slice (some ⟨PB, 0, none⟩) 3 3 ∧ Blk w PB 128 (flat [(z0, x1), (z4, z3), (x3, z2)]) := h.dep 47 (by kernel_rfl)
      have hb := h.base
      refine ⟨80, #[.slice (some ⟨PB, 0, none⟩) 3 3], ?_, ?_⟩
      · clear h hb hP
        have e47x : a.tmps[47]?.getD undef = .slice (some ⟨PB, 0, none⟩) 3 3 := by simpa using e47
        clear e47
        go_simp
      · refine (sumUp_any PB 3 _ w _ rfl (by decide) hP ?_).mono ?_
        · intro p hp; simp only [List.mem_cons, List.not_mem_nil, or_false] at hp; rcases hp with rfl | rfl | rfl <;> exact ⟨by assumption, by assumption, by assumption, by assumption⟩
        · rintro e w1 ⟨rfl, hg⟩; exact ⟨_, rfl, hb.grown hg, Or.inl hg, by show sumV _ = _; rw [HS1.out]; rfl⟩
    refine ⟨flow_value rfl rfl fun a w h => ?_, ?_⟩
    · have e3 : a.tmps.getD 3 undef = .int .u64 z0 := (h.rest 3 (by kernel_rfl)).trans (congrArg (Value.int .u64) Hz0.out)
      refine ⟨.int .u64 z0, w, ?_, h.base, Or.inl (gb_refl _ _), rfl⟩
      clear h
      simp only [execOp, Act.eval, e3]
      go_simp
    refine ⟨flow_value rfl rfl fun a w h => ?_, ?_⟩
    · have e1 : a.tmps.getD 1 undef = .pointer (some ⟨A, 0, none⟩) := h.rest 1 (by kernel_rfl)
      refine ⟨.pointer (some ⟨A, 2, none⟩), w, ?_, h.base, Or.inl (gb_refl _ _), rfl⟩
      clear h
      simp only [execOp, Act.eval, e1]
      go_simp
    refine ⟨flow_value rfl rfl fun a w h => ?_, ?_⟩
    · have e50 : a.tmps.getD 50 undef = .pointer (some ⟨A, 2, none⟩) := h.dep 50 (by kernel_rfl)
      have c := h.base.a.cell (i := 2) rfl
      refine ⟨.int .u64 x2, w, ?_, h.base, Or.inl (gb_refl _ _), rfl⟩
      clear h
      simp only [execOp, Act.eval, e50]
      go_simp
    refine ⟨flow_value rfl rfl fun a w h => ?_, ?_⟩
    · have e49 : a.tmps.getD 49 undef = .int .u64 z0 := h.dep 49 (by kernel_rfl)
      have e51 : a.tmps.getD 51 undef = .int .u64 x2 := h.dep 51 (by kernel_rfl)
      refine ⟨.agg #[.int .u64 z0, .int .u64 x2], w, ?_, h.base, Or.inl (gb_refl _ _), rfl⟩
      clear h
      simp only [execOp, List.map_toArray, List.map_cons, List.map_nil, Act.eval, e49, e51]
      go_simp
    refine ⟨flow_value rfl rfl fun a w h => ?_, ?_⟩
    · have e1 : a.tmps.getD 1 undef = .pointer (some ⟨A, 0, none⟩) := h.rest 1 (by kernel_rfl)
      refine ⟨.pointer (some ⟨A, 1, none⟩), w, ?_, h.base, Or.inl (gb_refl _ _), rfl⟩
      clear h
      simp only [execOp, Act.eval, e1]
      go_simp
    refine ⟨flow_value rfl rfl fun a w h => ?_, ?_⟩
    · have e53 : a.tmps.getD 53 undef = .pointer (some ⟨A, 1, none⟩) := h.dep 53 (by kernel_rfl)
      have c := h.base.a.cell (i := 1) rfl
      refine ⟨.int .u64 x1, w, ?_, h.base, Or.inl (gb_refl _ _), rfl⟩
      clear h
      simp only [execOp, Act.eval, e53]
      go_simp
    refine ⟨flow_value rfl rfl fun a w h => ?_, ?_⟩
    · have e1 : a.tmps.getD 1 undef = .pointer (some ⟨A, 0, none⟩) := h.rest 1 (by kernel_rfl)
      refine ⟨.pointer (some ⟨A, 1, none⟩), w, ?_, h.base, Or.inl (gb_refl _ _), rfl⟩
      clear h
      simp only [execOp, Act.eval, e1]
      go_simp
    refine ⟨flow_value rfl rfl fun a w h => ?_, ?_⟩
    · have e55 : a.tmps.getD 55 undef = .pointer (some ⟨A, 1, none⟩) := h.dep 55 (by kernel_rfl)
      have c := h.base.a.cell (i := 1) rfl
      refine ⟨.int .u64 x1, w, ?_, h.base, Or.inl (gb_refl _ _), rfl⟩
      clear h
      simp only [execOp, Act.eval, e55]
      go_simp
    refine ⟨flow_value rfl rfl fun a w h => ?_, ?_⟩
    · have e54 : a.tmps.getD 54 undef = .int .u64 x1 := h.dep 54 (by kernel_rfl)
      have e56 : a.tmps.getD 56 undef = .int .u64 x1 := h.dep 56 (by kernel_rfl)
      refine ⟨.agg #[.int .u64 x1, .int .u64 x1], w, ?_, h.base, Or.inl (gb_refl _ _), rfl⟩
      clear h
      simp only [execOp, List.map_toArray, List.map_cons, List.map_nil, Act.eval, e54, e56]
      go_simp
    refine ⟨flow_value rfl rfl fun a w h => ?_, ?_⟩
    · have e1 : a.tmps.getD 1 undef = .pointer (some ⟨A, 0, none⟩) := h.rest 1 (by kernel_rfl)
      refine ⟨.pointer (some ⟨A, 3, none⟩), w, ?_, h.base, Or.inl (gb_refl _ _), rfl⟩
      clear h
      simp only [execOp, Act.eval, e1]
      go_simp
    refine ⟨flow_value rfl rfl fun a w h => ?_, ?_⟩
    · have e58 : a.tmps.getD 58 undef = .pointer (some ⟨A, 3, none⟩) := h.dep 58 (by kernel_rfl)
      have c := h.base.a.cell (i := 3) rfl
      refine ⟨.int .u64 x3, w, ?_, h.base, Or.inl (gb_refl _ _), rfl⟩
      clear h
      simp only [execOp, Act.eval, e58]
      go_simp
    refine ⟨flow_value rfl rfl fun a w h => ?_, ?_⟩
    · have e59 : a.tmps.getD 59 undef = .int .u64 x3 := h.dep 59 (by kernel_rfl)
      refine ⟨.int .u64 (IntKind.u64.wrap (2 * x3)), w, ?_, h.base, Or.inl (gb_refl _ _), congrArg (Value.int .u64) Hz5.out⟩
      clear h
      simp only [execOp, Act.eval, e59]
      go_simp
    refine ⟨flow_value rfl rfl fun a w h => ?_, ?_⟩
    · have e6 : a.tmps.getD 6 undef = .int .u64 z3 := (h.rest 6 (by kernel_rfl)).trans (congrArg (Value.int .u64) Hz3.out)
      refine ⟨.int .u64 z3, w, ?_, h.base, Or.inl (gb_refl _ _), rfl⟩
      clear h
      simp only [execOp, Act.eval, e6]
      go_simp
    refine ⟨flow_value rfl rfl fun a w h => ?_, ?_⟩
    · have e60 : a.tmps.getD 60 undef = .int .u64 z5 := h.dep 60 (by kernel_rfl)
      have e61 : a.tmps.getD 61 undef = .int .u64 z3 := h.dep 61 (by kernel_rfl)
      refine ⟨.agg #[.int .u64 z5, .int .u64 z3], w, ?_, h.base, Or.inl (gb_refl _ _), rfl⟩
      clear h
      simp only [execOp, List.map_toArray, List.map_cons, List.map_nil, Act.eval, e60, e61]
      go_simp
    refine ⟨flow_value rfl rfl fun a w h => ?_, ?_⟩
    · have e52 : a.tmps.getD 52 undef = .agg #[.int .u64 z0, .int .u64 x2] := h.dep 52 (by kernel_rfl)
      have e57 : a.tmps.getD 57 undef = .agg #[.int .u64 x1, .int .u64 x1] := h.dep 57 (by kernel_rfl)
      have e62 : a.tmps.getD 62 undef = .agg #[.int .u64 z5, .int .u64 z3] := h.dep 62 (by kernel_rfl)
      obtain ⟨_, _, _, _, _, hr5⟩ := h.base.r
      have hs := hr5.lt
      refine ⟨.slice (some ⟨w.heap.size, 0, none⟩) 3 3, w.alloc (.cells #[.int .u64 z0, .int .u64 x2, .int .u64 x1, .int .u64 x1, .int .u64 z5, .int .u64 z3] 128), ?_, h.base.alloc _, Or.inl (World.grownBy_alloc _ _ _), ⟨w.heap.size, by omega, rfl, Blk.new w _ _⟩⟩
      clear h
      simp only [execOp, List.map_toArray, List.map_cons, List.map_nil, Act.eval, e52, e57, e62]
      go_simp
    refine ⟨flow_call rfl rfl fun a w h => ?_, ?_⟩
    · obtain ⟨PB, hne, e63, hP⟩ : ∃ PB, PB ≠ R ∧ a.tmps.getD 63 undef = .slice (some ⟨PB, 0, none⟩) 3 3 ∧ Blk w PB 128 (flat [(z0, x2), (x1, x1), (z5, z3)]) := h.dep 63 (by kernel_rfl)
      have hb := h.base
      refine ⟨80, #[.slice (some ⟨PB, 0, none⟩) 3 3], ?_, ?_⟩
      · clear h hb hP
        have e63x : a.tmps[63]?.getD undef = .slice (some ⟨PB, 0, none⟩) 3 3 := by simpa using e63
        clear e63
        go_simp
      · refine (sumUp_any PB 3 _ w _ rfl (by decide) hP ?_).mono ?_
        · intro p hp; simp only [List.mem_cons, List.not_mem_nil, or_false] at hp; rcases hp with rfl | rfl | rfl <;> exact ⟨by assumption, by assumption, by assumption, by assumption⟩
        · rintro e w1 ⟨rfl, hg⟩; exact ⟨_, rfl, hb.grown hg, Or.inl hg, by show sumV _ = _; rw [HS2.out]; rfl⟩
    refine ⟨flow_value rfl rfl fun a w h => ?_, ?_⟩
    · have e3 : a.tmps.getD 3 undef = .int .u64 z0 := (h.rest 3 (by kernel_rfl)).trans (congrArg (Value.int .u64) Hz0.out)
      refine ⟨.int .u64 z0, w, ?_, h.base, Or.inl (gb_refl _ _), rfl⟩
      clear h
      simp only [execOp, Act.eval, e3]
      go_simp
    refine ⟨flow_value rfl rfl fun a w h => ?_, ?_⟩
    · have e1 : a.tmps.getD 1 undef = .pointer (some ⟨A, 0, none⟩) := h.rest 1 (by kernel_rfl)
      refine ⟨.pointer (some ⟨A, 3, none⟩), w, ?_, h.base, Or.inl (gb_refl _ _), rfl⟩
      clear h
      simp only [execOp, Act.eval, e1]
      go_simp
    refine ⟨flow_value rfl rfl fun a w h => ?_, ?_⟩
    · have e66 : a.tmps.getD 66 undef = .pointer (some ⟨A, 3, none⟩) := h.dep 66 (by kernel_rfl)
      have c := h.base.a.cell (i := 3) rfl
      refine ⟨.int .u64 x3, w, ?_, h.base, Or.inl (gb_refl _ _), rfl⟩
      clear h
      simp only [execOp, Act.eval, e66]
      go_simp
    refine ⟨flow_value rfl rfl fun a w h => ?_, ?_⟩
    · have e65 : a.tmps.getD 65 undef = .int .u64 z0 := h.dep 65 (by kernel_rfl)
      have e67 : a.tmps.getD 67 undef = .int .u64 x3 := h.dep 67 (by kernel_rfl)
      refine ⟨.agg #[.int .u64 z0, .int .u64 x3], w, ?_, h.base, Or.inl (gb_refl _ _), rfl⟩
      clear h
      simp only [execOp, List.map_toArray, List.map_cons, List.map_nil, Act.eval, e65, e67]
      go_simp
    refine ⟨flow_value rfl rfl fun a w h => ?_, ?_⟩
    · have e4 : a.tmps.getD 4 undef = .int .u64 z1 := (h.rest 4 (by kernel_rfl)).trans (congrArg (Value.int .u64) Hz1.out)
      refine ⟨.int .u64 z1, w, ?_, h.base, Or.inl (gb_refl _ _), rfl⟩
      clear h
      simp only [execOp, Act.eval, e4]
      go_simp
    refine ⟨flow_value rfl rfl fun a w h => ?_, ?_⟩
    · have e1 : a.tmps.getD 1 undef = .pointer (some ⟨A, 0, none⟩) := h.rest 1 (by kernel_rfl)
      refine ⟨.pointer (some ⟨A, 2, none⟩), w, ?_, h.base, Or.inl (gb_refl _ _), rfl⟩
      clear h
      simp only [execOp, Act.eval, e1]
      go_simp
    refine ⟨flow_value rfl rfl fun a w h => ?_, ?_⟩
    · have e70 : a.tmps.getD 70 undef = .pointer (some ⟨A, 2, none⟩) := h.dep 70 (by kernel_rfl)
      have c := h.base.a.cell (i := 2) rfl
      refine ⟨.int .u64 x2, w, ?_, h.base, Or.inl (gb_refl _ _), rfl⟩
      clear h
      simp only [execOp, Act.eval, e70]
      go_simp
    refine ⟨flow_value rfl rfl fun a w h => ?_, ?_⟩
    · have e69 : a.tmps.getD 69 undef = .int .u64 z1 := h.dep 69 (by kernel_rfl)
      have e71 : a.tmps.getD 71 undef = .int .u64 x2 := h.dep 71 (by kernel_rfl)
      refine ⟨.agg #[.int .u64 z1, .int .u64 x2], w, ?_, h.base, Or.inl (gb_refl _ _), rfl⟩
      clear h
      simp only [execOp, List.map_toArray, List.map_cons, List.map_nil, Act.eval, e69, e71]
      go_simp
    refine ⟨flow_value rfl rfl fun a w h => ?_, ?_⟩
    · have e1 : a.tmps.getD 1 undef = .pointer (some ⟨A, 0, none⟩) := h.rest 1 (by kernel_rfl)
      refine ⟨.pointer (some ⟨A, 4, none⟩), w, ?_, h.base, Or.inl (gb_refl _ _), rfl⟩
      clear h
      simp only [execOp, Act.eval, e1]
      go_simp
    refine ⟨flow_value rfl rfl fun a w h => ?_, ?_⟩
    · have e73 : a.tmps.getD 73 undef = .pointer (some ⟨A, 4, none⟩) := h.dep 73 (by kernel_rfl)
      have c := h.base.a.cell (i := 4) rfl
      refine ⟨.int .u64 x4, w, ?_, h.base, Or.inl (gb_refl _ _), rfl⟩
      clear h
      simp only [execOp, Act.eval, e73]
      go_simp
    refine ⟨flow_value rfl rfl fun a w h => ?_, ?_⟩
    · have e6 : a.tmps.getD 6 undef = .int .u64 z3 := (h.rest 6 (by kernel_rfl)).trans (congrArg (Value.int .u64) Hz3.out)
      refine ⟨.int .u64 z3, w, ?_, h.base, Or.inl (gb_refl _ _), rfl⟩
      clear h
      simp only [execOp, Act.eval, e6]
      go_simp
    refine ⟨flow_value rfl rfl fun a w h => ?_, ?_⟩
    · have e74 : a.tmps.getD 74 undef = .int .u64 x4 := h.dep 74 (by kernel_rfl)
      have e75 : a.tmps.getD 75 undef = .int .u64 z3 := h.dep 75 (by kernel_rfl)
      refine ⟨.agg #[.int .u64 x4, .int .u64 z3], w, ?_, h.base, Or.inl (gb_refl _ _), rfl⟩
      clear h
      simp only [execOp, List.map_toArray, List.map_cons, List.map_nil, Act.eval, e74, e75]
      go_simp
    refine ⟨flow_value rfl rfl fun a w h => ?_, ?_⟩
    · have e68 : a.tmps.getD 68 undef = .agg #[.int .u64 z0, .int .u64 x3] := h.dep 68 (by kernel_rfl)
      have e72 : a.tmps.getD 72 undef = .agg #[.int .u64 z1, .int .u64 x2] := h.dep 72 (by kernel_rfl)
      have e76 : a.tmps.getD 76 undef = .agg #[.int .u64 x4, .int .u64 z3] := h.dep 76 (by kernel_rfl)
      obtain ⟨_, _, _, _, _, hr5⟩ := h.base.r
      have hs := hr5.lt
      refine ⟨.slice (some ⟨w.heap.size, 0, none⟩) 3 3, w.alloc (.cells #[.int .u64 z0, .int .u64 x3, .int .u64 z1, .int .u64 x2, .int .u64 x4, .int .u64 z3] 128), ?_, h.base.alloc _, Or.inl (World.grownBy_alloc _ _ _), ⟨w.heap.size, by omega, rfl, Blk.new w _ _⟩⟩
      clear h
      simp only [execOp, List.map_toArray, List.map_cons, List.map_nil, Act.eval, e68, e72, e76]
      go_simp
    refine ⟨flow_call rfl rfl fun a w h => ?_, ?_⟩
    · obtain ⟨PB, hne, e77, hP⟩ : ∃ PB, PB ≠ R ∧ a.tmps.getD 77 undef = .slice (some ⟨PB, 0, none⟩) 3 3 ∧ Blk w PB 128 (flat [(z0, x3), (z1, x2), (x4, z3)]) := h.dep 77 (by kernel_rfl)
      have hb := h.base
      refine ⟨80, #[.slice (some ⟨PB, 0, none⟩) 3 3], ?_, ?_⟩
      · clear h hb hP
        have e77x : a.tmps[77]?.getD undef = .slice (some ⟨PB, 0, none⟩) 3 3 := by simpa using e77
        clear e77
        go_simp
      · refine (sumUp_any PB 3 _ w _ rfl (by decide) hP ?_).mono ?_
        · intro p hp; simp only [List.mem_cons, List.not_mem_nil, or_false] at hp; rcases hp with rfl | rfl | rfl <;> exact ⟨by assumption, by assumption, by assumption, by assumption⟩
        · rintro e w1 ⟨rfl, hg⟩; exact ⟨_, rfl, hb.grown hg, Or.inl hg, by show sumV _ = _; rw [HS3.out]; rfl⟩
    refine ⟨flow_value rfl rfl fun a w h => ?_, ?_⟩
    · have e3 : a.tmps.getD 3 undef = .int .u64 z0 := (h.rest 3 (by kernel_rfl)).trans (congrArg (Value.int .u64) Hz0.out)
      refine ⟨.int .u64 z0, w, ?_, h.base, Or.inl (gb_refl _ _), rfl⟩
      clear h
      simp only [execOp, Act.eval, e3]
      go_simp
    refine ⟨flow_value rfl rfl fun a w h => ?_, ?_⟩
    · have e1 : a.tmps.getD 1 undef = .pointer (some ⟨A, 0, none⟩) := h.rest 1 (by kernel_rfl)
      refine ⟨.pointer (some ⟨A, 4, none⟩), w, ?_, h.base, Or.inl (gb_refl _ _), rfl⟩
      clear h
      simp only [execOp, Act.eval, e1]
      go_simp
    refine ⟨flow_value rfl rfl fun a w h => ?_, ?_⟩
    · have e80 : a.tmps.getD 80 undef = .pointer (some ⟨A, 4, none⟩) := h.dep 80 (by kernel_rfl)
      have c := h.base.a.cell (i := 4) rfl
      refine ⟨.int .u64 x4, w, ?_, h.base, Or.inl (gb_refl _ _), rfl⟩
      clear h
      simp only [execOp, Act.eval, e80]
      go_simp
    refine ⟨flow_value rfl rfl fun a w h => ?_, ?_⟩
    · have e79 : a.tmps.getD 79 undef = .int .u64 z0 := h.dep 79 (by kernel_rfl)
      have e81 : a.tmps.getD 81 undef = .int .u64 x4 := h.dep 81 (by kernel_rfl)
      refine ⟨.agg #[.int .u64 z0, .int .u64 x4], w, ?_, h.base, Or.inl (gb_refl _ _), rfl⟩
      clear h
      simp only [execOp, List.map_toArray, List.map_cons, List.map_nil, Act.eval, e79, e81]
      go_simp
    refine ⟨flow_value rfl rfl fun a w h => ?_, ?_⟩
    · have e4 : a.tmps.getD 4 undef = .int .u64 z1 := (h.rest 4 (by kernel_rfl)).trans (congrArg (Value.int .u64) Hz1.out)
      refine ⟨.int .u64 z1, w, ?_, h.base, Or.inl (gb_refl _ _), rfl⟩
      clear h
      simp only [execOp, Act.eval, e4]
      go_simp
    refine ⟨flow_value rfl rfl fun a w h => ?_, ?_⟩
    · have e1 : a.tmps.getD 1 undef = .pointer (some ⟨A, 0, none⟩) := h.rest 1 (by kernel_rfl)
      refine ⟨.pointer (some ⟨A, 3, none⟩), w, ?_, h.base, Or.inl (gb_refl _ _), rfl⟩
      clear h
      simp only [execOp, Act.eval, e1]
      go_simp
    refine ⟨flow_value rfl rfl fun a w h => ?_, ?_⟩
    · have e84 : a.tmps.getD 84 undef = .pointer (some ⟨A, 3, none⟩) := h.dep 84 (by kernel_rfl)
      have c := h.base.a.cell (i := 3) rfl
      refine ⟨.int .u64 x3, w, ?_, h.base, Or.inl (gb_refl _ _), rfl⟩
      clear h
      simp only [execOp, Act.eval, e84]
      go_simp
    refine ⟨flow_value rfl rfl fun a w h => ?_, ?_⟩
    · have e83 : a.tmps.getD 83 undef = .int .u64 z1 := h.dep 83 (by kernel_rfl)
      have e85 : a.tmps.getD 85 undef = .int .u64 x3 := h.dep 85 (by kernel_rfl)
      refine ⟨.agg #[.int .u64 z1, .int .u64 x3], w, ?_, h.base, Or.inl (gb_refl _ _), rfl⟩
      clear h
      simp only [execOp, List.map_toArray, List.map_cons, List.map_nil, Act.eval, e83, e85]
      go_simp
    refine ⟨flow_value rfl rfl fun a w h => ?_, ?_⟩
    · have e1 : a.tmps.getD 1 undef = .pointer (some ⟨A, 0, none⟩) := h.rest 1 (by kernel_rfl)
      refine ⟨.pointer (some ⟨A, 2, none⟩), w, ?_, h.base, Or.inl (gb_refl _ _), rfl⟩
      clear h
      simp only [execOp, Act.eval, e1]
      go_simp
    refine ⟨flow_value rfl rfl fun a w h => ?_, ?_⟩
    · have e87 : a.tmps.getD 87 undef = .pointer (some ⟨A, 2, none⟩) := h.dep 87 (by kernel_rfl)
      have c := h.base.a.cell (i := 2) rfl
      refine ⟨.int .u64 x2, w, ?_, h.base, Or.inl (gb_refl _ _), rfl⟩
      clear h
      simp only [execOp, Act.eval, e87]
      go_simp
    refine ⟨flow_value rfl rfl fun a w h => ?_, ?_⟩
    · have e1 : a.tmps.getD 1 undef = .pointer (some ⟨A, 0, none⟩) := h.rest 1 (by kernel_rfl)
      refine ⟨.pointer (some ⟨A, 2, none⟩), w, ?_, h.base, Or.inl (gb_refl _ _), rfl⟩
      clear h
      simp only [execOp, Act.eval, e1]
      go_simp
    refine ⟨flow_value rfl rfl fun a w h => ?_, ?_⟩
    · have e89 : a.tmps.getD 89 undef = .pointer (some ⟨A, 2, none⟩) := h.dep 89 (by kernel_rfl)
      have c := h.base.a.cell (i := 2) rfl
      refine ⟨.int .u64 x2, w, ?_, h.base, Or.inl (gb_refl _ _), rfl⟩
      clear h
      simp only [execOp, Act.eval, e89]
      go_simp
    refine ⟨flow_value rfl rfl fun a w h => ?_, ?_⟩
    · have e88 : a.tmps.getD 88 undef = .int .u64 x2 := h.dep 88 (by kernel_rfl)
      have e90 : a.tmps.getD 90 undef = .int .u64 x2 := h.dep 90 (by kernel_rfl)
      refine ⟨.agg #[.int .u64 x2, .int .u64 x2], w, ?_, h.base, Or.inl (gb_refl _ _), rfl⟩
      clear h
      simp only [execOp, List.map_toArray, List.map_cons, List.map_nil, Act.eval, e88, e90]
      go_simp
    refine ⟨flow_value rfl rfl fun a w h => ?_, ?_⟩
    · have e82 : a.tmps.getD 82 undef = .agg #[.int .u64 z0, .int .u64 x4] := h.dep 82 (by kernel_rfl)
      have e86 : a.tmps.getD 86 undef = .agg #[.int .u64 z1, .int .u64 x3] := h.dep 86 (by kernel_rfl)
      have e91 : a.tmps.getD 91 undef = .agg #[.int .u64 x2, .int .u64 x2] := h.dep 91 (by kernel_rfl)
      obtain ⟨_, _, _, _, _, hr5⟩ := h.base.r
      have hs := hr5.lt
      refine ⟨.slice (some ⟨w.heap.size, 0, none⟩) 3 3, w.alloc (.cells #[.int .u64 z0, .int .u64 x4, .int .u64 z1, .int .u64 x3, .int .u64 x2, .int .u64 x2] 128), ?_, h.base.alloc _, Or.inl (World.grownBy_alloc _ _ _), ⟨w.heap.size, by omega, rfl, Blk.new w _ _⟩⟩
      clear h
      simp only [execOp, List.map_toArray, List.map_cons, List.map_nil, Act.eval, e82, e86, e91]
      go_simp
    refine ⟨flow_call rfl rfl fun a w h => ?_, ?_⟩
    · obtain ⟨PB, hne, e92, hP⟩ : ∃ PB, PB ≠ R ∧ a.tmps.getD 92 undef = .slice (some ⟨PB, 0, none⟩) 3 3 ∧ Blk w PB 128 (flat [(z0, x4), (z1, x3), (x2, x2)]) := h.dep 92 (by kernel_rfl)
      have hb := h.base
      refine ⟨80, #[.slice (some ⟨PB, 0, none⟩) 3 3], ?_, ?_⟩
      · clear h hb hP
        have e92x : a.tmps[92]?.getD undef = .slice (some ⟨PB, 0, none⟩) 3 3 := by simpa using e92
        clear e92
        go_simp
      · refine (sumUp_any PB 3 _ w _ rfl (by decide) hP ?_).mono ?_
        · intro p hp; simp only [List.mem_cons, List.not_mem_nil, or_false] at hp; rcases hp with rfl | rfl | rfl <;> exact ⟨by assumption, by assumption, by assumption, by assumption⟩
        · rintro e w1 ⟨rfl, hg⟩; exact ⟨_, rfl, hb.grown hg, Or.inl hg, by show sumV _ = _; rw [HS4.out]; rfl⟩
    refine ⟨flow_value rfl rfl fun a w h => ?_, ?_⟩
    · have e33 : a.tmps.getD 33 undef = .agg #[.int .u64 (S0 / 18446744073709551616), .int .u64 (S0 % 18446744073709551616)] := h.dep 33 (by kernel_rfl)
      have e48 : a.tmps.getD 48 undef = .agg #[.int .u64 (S1 / 18446744073709551616), .int .u64 (S1 % 18446744073709551616)] := h.dep 48 (by kernel_rfl)
      have e64 : a.tmps.getD 64 undef = .agg #[.int .u64 (S2 / 18446744073709551616), .int .u64 (S2 % 18446744073709551616)] := h.dep 64 (by kernel_rfl)
      have e78 : a.tmps.getD 78 undef = .agg #[.int .u64 (S3 / 18446744073709551616), .int .u64 (S3 % 18446744073709551616)] := h.dep 78 (by kernel_rfl)
      have e93 : a.tmps.getD 93 undef = .agg #[.int .u64 (S4 / 18446744073709551616), .int .u64 (S4 % 18446744073709551616)] := h.dep 93 (by kernel_rfl)
      refine ⟨.agg #[.int .u64 (S0 / 18446744073709551616), .int .u64 (S0 % 18446744073709551616), .int .u64 (S1 / 18446744073709551616), .int .u64 (S1 % 18446744073709551616), .int .u64 (S2 / 18446744073709551616), .int .u64 (S2 % 18446744073709551616), .int .u64 (S3 / 18446744073709551616), .int .u64 (S3 % 18446744073709551616), .int .u64 (S4 / 18446744073709551616), .int .u64 (S4 % 18446744073709551616)], w, ?_, h.base, Or.inl (gb_refl _ _), rfl⟩
      clear h
      simp only [execOp, List.map_toArray, List.map_cons, List.map_nil, Act.eval, e33, e48, e64, e78, e93]
      go_simp
    refine ⟨flow_call rfl rfl fun a w h => ?_, ?_⟩
    · have e94 : a.tmps.getD 94 undef = .agg #[.int .u64 (S0 / 18446744073709551616), .int .u64 (S0 % 18446744073709551616), .int .u64 (S1 / 18446744073709551616), .int .u64 (S1 % 18446744073709551616), .int .u64 (S2 / 18446744073709551616), .int .u64 (S2 % 18446744073709551616), .int .u64 (S3 / 18446744073709551616), .int .u64 (S3 % 18446744073709551616), .int .u64 (S4 / 18446744073709551616), .int .u64 (S4 % 18446744073709551616)] := h.dep 94 (by kernel_rfl)
      have hb := h.base
      refine ⟨79, #[.agg #[.int .u64 (S0 / 18446744073709551616), .int .u64 (S0 % 18446744073709551616), .int .u64 (S1 / 18446744073709551616), .int .u64 (S1 % 18446744073709551616), .int .u64 (S2 / 18446744073709551616), .int .u64 (S2 % 18446744073709551616), .int .u64 (S3 / 18446744073709551616), .int .u64 (S3 % 18446744073709551616), .int .u64 (S4 / 18446744073709551616), .int .u64 (S4 % 18446744073709551616)]], ?_, ?_⟩
      · clear h hb
        have e94x : a.tmps[94]?.getD undef = .agg #[.int .u64 (S0 / 18446744073709551616), .int .u64 (S0 % 18446744073709551616), .int .u64 (S1 / 18446744073709551616), .int .u64 (S1 % 18446744073709551616), .int .u64 (S2 / 18446744073709551616), .int .u64 (S2 % 18446744073709551616), .int .u64 (S3 / 18446744073709551616), .int .u64 (S3 % 18446744073709551616), .int .u64 (S4 / 18446744073709551616), .int .u64 (S4 % 18446744073709551616)] := by simpa using e94
        clear e94
        go_simp
      · refine (join_sums S0 S1 S2 S3 S4 w (by assumption) (by assumption) (by assumption) (by assumption) (by assumption)).mono ?_
        rintro e w1 ⟨rfl, hg⟩
        exact ⟨_, rfl, hb.grown hg, Or.inl hg, by show Fe.v _ = Fe.v _; rw [Hr.out]⟩
    refine ⟨flow_skip rfl rfl fun a w h => ?_, ?_⟩
    · have e95 : a.tmps.getD 95 undef = .agg #[.int .u64 r.x0, .int .u64 r.x1, .int .u64 r.x2, .int .u64 r.x3, .int .u64 r.x4] := h.dep 95 (by kernel_rfl)
      have e2 : a.tmps.getD 2 undef = .pointer (some ⟨R, 0, none⟩) := h.rest 2 (by kernel_rfl)
      obtain ⟨u0, u1, u2, u3, u4, hR⟩ := h.base.r
      have c0r := hR.cell (i := 0) rfl; have f0r := hR.free 0
      have c1r := hR.cell (i := 1) rfl; have f1r := hR.free 1
      have c2r := hR.cell (i := 2) rfl; have f2r := hR.free 2
      have c3r := hR.cell (i := 3) rfl; have f3r := hR.free 3
      have c4r := hR.cell (i := 4) rfl; have f4r := hR.free 4
      refine ⟨_, ?_, h.base.set5 _ _ _ _ _, Or.inr ⟨gb_set (gb_set (gb_set (gb_set (gb_set (gb_refl _ _) _ _) _ _) _ _) _ _) _ _, h.base.r.set5 _ _ _ _ _⟩, h.base.r.set5 _ _ _ _ _⟩
      clear h
      simp only [execOp, Act.eval, e95, e2]
      go_simp
    trivial
  · intro a w1 hB hsz hdf hrest hslots hmems
    have hM := hmems 77 _ rfl rfl
    have eR0 : a.tmps.getD 2 undef = .pointer (some ⟨(w.heap.size + 1), 0, none⟩) := hrest 2 (by kernel_rfl)
    have hg := hB.g
    clear hmems hslots hrest hB
    have eR1 : a.tmps[2]?.getD undef = .pointer (some ⟨(w.heap.size + 1), 0, none⟩) := by simpa using eR0
    have z0 := hM.cell (i := 0) rfl
    have z1 := hM.cell (i := 1) rfl
    have z2 := hM.cell (i := 2) rfl
    have z3 := hM.cell (i := 3) rfl
    have z4 := hM.cell (i := 4) rfl
    clear hM
    go_wp2
    refine bodyPost_ret (v := .agg #[.int .u64 r.x0, .int .u64 r.x1, .int .u64 r.x2, .int .u64 r.x3, .int .u64 r.x4]) ?_ (by rw [hdf]) ⟨r, ?_, rfl, hg⟩
    · simp [results, Tryz.results38, go_sem, eR1, z0, z1, z2, z3, z4]
    · rw [Hr.out, ← HS0.out, ← HS1.out, ← HS2.out, ← HS3.out, ← HS4.out, ← Hz0.out, ← Hz1.out, ← Hz2.out, ← Hz3.out, ← Hz4.out, ← Hz5.out]
      simp only [wrapw]
      rfl
end Go.Proofs.YtcmnecnbcohaeaaGreatDoor

/- field: Add, Sub, Neg, One. -/
namespace Go.Proofs.YtcmnecnbcohaeaaGreatDoor
open Go.RowKit

/-- limb number i -/
def Fe.at (a : Fe) : Nat → Int
  | 0 => a.x0
  | 1 => a.x1
  | 2 => a.x2
  | 3 => a.x3
  | _ => a.x4
theorem Fe.Ok.at {a : Fe} (h : a.Ok) (i : Nat) : 0 ≤ a.at i ∧ a.at i < 18446744073709551616 := by
  obtain ⟨n0, n1, n2, n3, n4, l0, l1, l2, l3, l4⟩ := h
  match i with
  | 0 => exact ⟨n0, l0⟩
  | 1 => exact ⟨n1, l1⟩
  | 2 => exact ⟨n2, l2⟩
  | 3 => exact ⟨n3, l3⟩
  | n + 4 => exact ⟨n4, l4⟩
/-- five cells: the first k are g's, the others f's -/
def mixV (f g : Nat → Int) (k : Nat) : List Value := (List.range 5).map fun i => .int .u64 (if i < k then g i else f i)
theorem mixV_length (f g : Nat → Int) (k : Nat) : (mixV f g k).length = 5 := by simp [mixV]
theorem mixV_get (f g : Nat → Int) (k i : Nat) (h : i < 5) : (mixV f g k)[i]? = some (.int .u64 (if i < k then g i else f i)) := by
  unfold mixV
  rw [List.getElem?_map, List.getElem?_range h]
  rfl
theorem mixV_set (f g : Nat → Int) (k : Nat) (h : k < 5) : (mixV f g k).set k (.int .u64 (g k)) = mixV f g (k + 1) := by
  apply List.ext_getElem?
  intro i
  rw [List.getElem?_set]
  by_cases hi : i < 5
  · rw [mixV_get f g (k + 1) i hi]
    by_cases e : k = i
    · subst e; simp [mixV_length, h]
    · rw [if_neg e, mixV_get f g k i hi]
      congr 2
      by_cases hk : i < k
      · rw [if_pos hk, if_pos (by omega)]
      · rw [if_neg hk, if_neg (by omega)]
  · rw [List.getElem?_eq_none (by rw [mixV_length]; omega), List.getElem?_eq_none (by rw [mixV_length]; omega)]
    split
    · rw [mixV_length]; simp; omega
    · rfl

theorem gb_set5 {w0 w : World} {B : Nat} (h : w0.grownBy w none) (hB : w0.heap.size ≤ B) (v0 v1 v2 v3 v4 : Value) :
    w0.grownBy (((((w.setCell ⟨B, 0, none⟩ v0).setCell ⟨B, 1, none⟩ v1).setCell ⟨B, 2, none⟩ v2).setCell ⟨B, 3, none⟩ v3).setCell ⟨B, 4, none⟩ v4) none :=
  gb_set_new (gb_set_new (gb_set_new (gb_set_new (gb_set_new h hB _) hB _) hB _) hB _) hB _
theorem room5_set {w : World} {B : Nat} {T : TypeId} (h : Room5 w B T) {p : Addr} (hp : p.block ≠ B) (v : Value) : Room5 (w.setCell p v) B T :=
  let ⟨_, _, _, _, _, hb⟩ := h; ⟨_, _, _, _, _, hb.other hp v⟩
set_option maxHeartbeats 800000 in
theorem add_any (a b : Fe) (w : World) (ha : a.Ok) (hb : b.Ok) :
    Calls Tryz.prog 36 #[.agg #[.int .u64 a.x0, .int .u64 a.x1, .int .u64 a.x2, .int .u64 a.x3, .int .u64 a.x4], .agg #[.int .u64 b.x0, .int .u64 b.x1, .int .u64 b.x2, .int .u64 b.x3, .int .u64 b.x4]] w (FeOut (Fe.addF a b) w) := by
  have hA := ha.at
  have hB := hb.at
  clear ha hb
  go_enter Tryz.func36, Tryz.ntmps36
  go_wp2
  go_loopw [6] (fun i wr => ∃ k : Nat, k ≤ 5 ∧ i = .int .i64 k ∧ w.grownBy wr none ∧ Blk wr w.heap.size 27 (mixV a.at (fun i => IntKind.u64.wrap (a.at i + b.at i)) k) ∧ Blk wr (w.heap.size + 1) 27 (mixV b.at b.at 0) ∧ Room5 wr (w.heap.size + 2) 27) (fun i _ => 5 - (intOf i).toNat)
  case atStart =>
    exact ⟨0, by omega, rfl, gb_alloc (gb_alloc (gb_alloc (gb_refl _ _) _) _) _, ((Blk.new w (mixV a.at (fun i => IntKind.u64.wrap (a.at i + b.at i)) 0) _).alloc _).alloc _, (Blk.newAt (w.alloc _) (mixV b.at b.at 0) _ (by simp)).alloc _, ⟨_, _, _, _, _, Blk.newAt _ [.int .u64 0, .int .u64 0, .int .u64 0, .int .u64 0, .int .u64 0] _ (by simp)⟩⟩
  case round =>
    obtain ⟨k, hk, rfl, hg, hBa, hBb, hR⟩ := hrel
    by_cases hlt : k < 5
    · have c0 := hBa.cell (mixV_get a.at (fun i => IntKind.u64.wrap (a.at i + b.at i)) k k hlt)
      have c1 := hBb.cell (mixV_get b.at b.at 0 k hlt)
      rw [if_neg (by omega)] at c0 c1
      have f0 := hBa.free k
      have hset := hBa.set k (.int .u64 (IntKind.u64.wrap (a.at k + b.at k)))
      have Hset := Lib.hid (mixV_set a.at (fun i => IntKind.u64.wrap (a.at i + b.at i)) k hlt)
      have i0 : (0 : Int) ≤ (k : Int) := by omega
      have i1 : (k : Int) < 5 := by omega
      go_wp2
      go_region
      go_wp2
      go_roundw
      case rel => exact ⟨k + 1, by omega, by go_num, gb_set_new (gb_drew hg) (Nat.le_refl _) _, Hset.out ▸ hset, (hBb.drew).other (by simp) _, room5_set (hR.grown (gb_drew (gb_refl _ none)) (by simp)) (by simp) _⟩
      case measure => simp [intOf]; omega
    · obtain rfl : k = 5 := by omega
      have c0 := hBa.cell (mixV_get a.at (fun i => IntKind.u64.wrap (a.at i + b.at i)) 5 0 (by decide))
      have c1 := hBa.cell (mixV_get a.at (fun i => IntKind.u64.wrap (a.at i + b.at i)) 5 1 (by decide))
      have c2 := hBa.cell (mixV_get a.at (fun i => IntKind.u64.wrap (a.at i + b.at i)) 5 2 (by decide))
      have c3 := hBa.cell (mixV_get a.at (fun i => IntKind.u64.wrap (a.at i + b.at i)) 5 3 (by decide))
      have c4 := hBa.cell (mixV_get a.at (fun i => IntKind.u64.wrap (a.at i + b.at i)) 5 4 (by decide))
      rw [if_pos (by decide)] at c0 c1 c2 c3 c4
      clear hBa hBb
      go_wp2_with (go_at_call 81; refine (carry_w _ _ _ _ _ _).mono ?_; rintro e w1 ⟨r, hr, rfl, hg1⟩; obtain ⟨u0, u1, u2, u3, u4, hR1⟩ := hR.grown hg1 (by simp); have z0 := hR1.cell (i := 0) rfl; have z1 := hR1.cell (i := 1) rfl; have z2 := hR1.cell (i := 2) rfl; have z3 := hR1.cell (i := 3) rfl; have z4 := hR1.cell (i := 4) rfl; have y0 := hR1.free 0; have y1 := hR1.free 1; have y2 := hR1.free 2; have y3 := hR1.free 3; have y4 := hR1.free 4)
      refine bodyPost_ret (v := .agg #[.int .u64 r.x0, .int .u64 r.x1, .int .u64 r.x2, .int .u64 r.x3, .int .u64 r.x4]) ?_ rfl ⟨r, ?_, rfl, ?_⟩
      · simp [results, Tryz.results36, go_sem, z0, z1, z2, z3, z4]
      · have e := hr.out
        rw [e]
        unfold Fe.addF
        exact Lib.hid rfl
      · exact gb_set5 (gb_trans hg hg1) (by omega) _ _ _ _ _
/-- 4 p, limb by limb -/
def fourP : Nat → Int
  | 0 => 9007199254740916
  | _ => 9007199254740988
def rootI : Fe := ⟨1718705420411056, 234908883556509, 2233514472574048, 2117202627021982, 765476049583133⟩
theorem fourP_bd (i : Nat) : 0 ≤ fourP i ∧ fourP i < 18446744073709551616 := by
  cases i <;> simp [fourP]
/-- the package's two variables -/
structure FTab (w : World) : Prop where
  lt : 1 < w.heap.size ∧ 0 < w.heap.size
  p : ∀ i, i < 5 → w.cell? ⟨1, i, none⟩ = some (.int .u64 (fourP i))
  q : ∀ i, i < 5 → w.cell? ⟨0, i, none⟩ = some (.int .u64 (rootI.at i))
theorem FTab.grown {w w' : World} (h : FTab w) (hg : w.grownBy w' none) : FTab w' :=
  ⟨⟨Nat.lt_of_lt_of_le h.lt.1 hg.size, Nat.lt_of_lt_of_le h.lt.2 hg.size⟩, fun i hi => by rw [gb_cell hg (p := ⟨1, i, none⟩) h.lt.1 (by simp)]; exact h.p i hi,
    fun i hi => by rw [gb_cell hg (p := ⟨0, i, none⟩) h.lt.2 (by simp)]; exact h.q i hi⟩

set_option maxHeartbeats 800000 in
theorem sub_any (a b : Fe) (w : World) (hT : FTab w) (ha : a.Ok) (hb : b.Ok) :
    Calls Tryz.prog 37 #[.agg #[.int .u64 a.x0, .int .u64 a.x1, .int .u64 a.x2, .int .u64 a.x3, .int .u64 a.x4], .agg #[.int .u64 b.x0, .int .u64 b.x1, .int .u64 b.x2, .int .u64 b.x3, .int .u64 b.x4]] w (FeOut (Fe.subF a b) w) := by
  have hA := ha.at
  have hB := hb.at
  clear ha hb
  go_enter Tryz.func37, Tryz.ntmps37
  go_wp2
  go_loopw [6] (fun i wr => ∃ k : Nat, k ≤ 5 ∧ i = .int .i64 k ∧ w.grownBy wr none ∧ Blk wr w.heap.size 27 (mixV a.at (fun i => IntKind.u64.wrap (a.at i + IntKind.u64.wrap (fourP i - b.at i))) k) ∧ Blk wr (w.heap.size + 1) 27 (mixV b.at b.at 0) ∧ Room5 wr (w.heap.size + 2) 27) (fun i _ => 5 - (intOf i).toNat)
  case atStart =>
    exact ⟨0, by omega, rfl, gb_alloc (gb_alloc (gb_alloc (gb_refl _ _) _) _) _, ((Blk.new w (mixV a.at (fun i => IntKind.u64.wrap (a.at i + IntKind.u64.wrap (fourP i - b.at i))) 0) _).alloc _).alloc _, (Blk.newAt (w.alloc _) (mixV b.at b.at 0) _ (by simp)).alloc _, ⟨_, _, _, _, _, Blk.newAt _ [.int .u64 0, .int .u64 0, .int .u64 0, .int .u64 0, .int .u64 0] _ (by simp)⟩⟩
  case round =>
    obtain ⟨k, hk, rfl, hg, hBa, hBb, hR⟩ := hrel
    by_cases hlt : k < 5
    · have c0 := hBa.cell (mixV_get a.at (fun i => IntKind.u64.wrap (a.at i + IntKind.u64.wrap (fourP i - b.at i))) k k hlt)
      have c1 := hBb.cell (mixV_get b.at b.at 0 k hlt)
      rw [if_neg (by omega)] at c0 c1
      have f0 := hBa.free k
      have ct := (hT.grown hg).p k hlt
      have hf := fourP_bd k
      have hset := hBa.set k (.int .u64 (IntKind.u64.wrap (a.at k + IntKind.u64.wrap (fourP k - b.at k))))
      have Hset := Lib.hid (mixV_set a.at (fun i => IntKind.u64.wrap (a.at i + IntKind.u64.wrap (fourP i - b.at i))) k hlt)
      have i0 : (0 : Int) ≤ (k : Int) := by omega
      have i1 : (k : Int) < 5 := by omega
      go_wp2
      go_region
      go_wp2
      go_roundw
      case rel => exact ⟨k + 1, by omega, by go_num, gb_set_new (gb_drew hg) (Nat.le_refl _) _, Hset.out ▸ hset, (hBb.drew).other (by simp) _, room5_set (hR.grown (gb_drew (gb_refl _ none)) (by simp)) (by simp) _⟩
      case measure => simp [intOf]; omega
    · obtain rfl : k = 5 := by omega
      have c0 := hBa.cell (mixV_get a.at (fun i => IntKind.u64.wrap (a.at i + IntKind.u64.wrap (fourP i - b.at i))) 5 0 (by decide))
      have c1 := hBa.cell (mixV_get a.at (fun i => IntKind.u64.wrap (a.at i + IntKind.u64.wrap (fourP i - b.at i))) 5 1 (by decide))
      have c2 := hBa.cell (mixV_get a.at (fun i => IntKind.u64.wrap (a.at i + IntKind.u64.wrap (fourP i - b.at i))) 5 2 (by decide))
      have c3 := hBa.cell (mixV_get a.at (fun i => IntKind.u64.wrap (a.at i + IntKind.u64.wrap (fourP i - b.at i))) 5 3 (by decide))
      have c4 := hBa.cell (mixV_get a.at (fun i => IntKind.u64.wrap (a.at i + IntKind.u64.wrap (fourP i - b.at i))) 5 4 (by decide))
      rw [if_pos (by decide)] at c0 c1 c2 c3 c4
      clear hBa hBb
      clear hT
      go_wp2_with (go_at_call 81; refine (carry_w _ _ _ _ _ _).mono ?_; rintro e w1 ⟨r, hr, rfl, hg1⟩; obtain ⟨u0, u1, u2, u3, u4, hR1⟩ := hR.grown hg1 (by simp); have z0 := hR1.cell (i := 0) rfl; have z1 := hR1.cell (i := 1) rfl; have z2 := hR1.cell (i := 2) rfl; have z3 := hR1.cell (i := 3) rfl; have z4 := hR1.cell (i := 4) rfl; have y0 := hR1.free 0; have y1 := hR1.free 1; have y2 := hR1.free 2; have y3 := hR1.free 3; have y4 := hR1.free 4)
      refine bodyPost_ret (v := .agg #[.int .u64 r.x0, .int .u64 r.x1, .int .u64 r.x2, .int .u64 r.x3, .int .u64 r.x4]) ?_ rfl ⟨r, ?_, rfl, ?_⟩
      · simp [results, Tryz.results37, go_sem, z0, z1, z2, z3, z4]
      · have e := hr.out
        rw [e]
        unfold Fe.subF
        exact Lib.hid rfl
      · exact gb_set5 (gb_trans hg hg1) (by omega) _ _ _ _ _

set_option maxHeartbeats 400000 in
theorem neg_any (a : Fe) (w : World) (hT : FTab w) (ha : a.Ok) :
    Calls Tryz.prog 19 #[.agg #[.int .u64 a.x0, .int .u64 a.x1, .int .u64 a.x2, .int .u64 a.x3, .int .u64 a.x4]] w (FeOut (Fe.negF a) w) := by
  have hg0 : ∀ c0 c1, w.grownBy ((w.alloc c0).alloc c1) none := fun c0 c1 => gb_alloc (gb_alloc (gb_refl _ _) _) _
  have hz : Fe.Ok ⟨0, 0, 0, 0, 0⟩ := by constructor <;> decide
  go_enter Tryz.func19, Tryz.ntmps19
  go_wp2_with (go_at_call 37; refine (sub_any ⟨0, 0, 0, 0, 0⟩ a _ (hT.grown (hg0 _ _)) hz ha).mono ?_; rintro e w1 ⟨r, hr, rfl, hg1⟩; have hg2 := gb_trans (hg0 _ _) hg1; obtain ⟨u0, u1, u2, u3, u4, hR1⟩ : Room5 w1 (w.heap.size + 1) 27 := Room5.grown ⟨_, _, _, _, _, Blk.newAt _ [.int .u64 0, .int .u64 0, .int .u64 0, .int .u64 0, .int .u64 0] _ (by simp)⟩ hg1 (by simp); have z0 := hR1.cell (i := 0) rfl; have z1 := hR1.cell (i := 1) rfl; have z2 := hR1.cell (i := 2) rfl; have z3 := hR1.cell (i := 3) rfl; have z4 := hR1.cell (i := 4) rfl; have y0 := hR1.free 0; have y1 := hR1.free 1; have y2 := hR1.free 2; have y3 := hR1.free 3; have y4 := hR1.free 4)
  refine bodyPost_ret (v := .agg #[.int .u64 r.x0, .int .u64 r.x1, .int .u64 r.x2, .int .u64 r.x3, .int .u64 r.x4]) ?_ rfl ⟨r, hr, rfl, gb_set5 hg2 (by omega) _ _ _ _ _⟩
  simp [results, Tryz.results19, go_sem, z0, z1, z2, z3, z4]
set_option maxHeartbeats 400000 in
theorem one_any (w : World) : Calls Tryz.prog 16 #[] w (FeOut Fe.oneF w) := by
  go_enter Tryz.func16, Tryz.ntmps16
  go_wp2
  refine bodyPost_ret (v := .agg #[.int .u64 1, .int .u64 0, .int .u64 0, .int .u64 0, .int .u64 0]) ?_ rfl ⟨Fe.oneF, Lib.hid rfl, rfl, gb_alloc (gb_refl _ _) _⟩
  simp [results, Tryz.results16, go_sem]
end Go.Proofs.YtcmnecnbcohaeaaGreatDoor

/- field: least: the limbs of the number from 0 to p - 1. -/
namespace Go.Proofs.YtcmnecnbcohaeaaGreatDoor
open Go.RowKit

def ov (c : Fe) : Nat → Int
  | 0 => 19
  | 1 => Fe.over1 c
  | 2 => Fe.over2 c
  | 3 => Fe.over3 c
  | 4 => Fe.over4 c
  | _ => Fe.over5 c
theorem ov_bd {c : Fe} (h : Fe.Low c) (k : Nat) : 0 ≤ ov c k ∧ ov c k ≤ 19 := by
  obtain ⟨n0, n1, n2, n3, n4, l0, l1, l2, l3, l4⟩ := h
  match k with
  | 0 => simp [ov]
  | 1 => simp only [ov, Fe.over1]; omega
  | 2 => simp only [ov, Fe.over2, Fe.over1]; omega
  | 3 => simp only [ov, Fe.over3, Fe.over2, Fe.over1]; omega
  | 4 => simp only [ov, Fe.over4, Fe.over3, Fe.over2, Fe.over1]; omega
  | n + 5 => simp only [ov, Fe.over5, Fe.over4, Fe.over3, Fe.over2, Fe.over1]; omega
def leastL (l0 l1 l2 l3 l4 x1 x2 x3 x4 : Int) : Nat → List Value
  | 0 => [.int .u64 l0, .int .u64 x1, .int .u64 x2, .int .u64 x3, .int .u64 x4]
  | 1 => [.int .u64 (l0 % 2251799813685248), .int .u64 l1, .int .u64 x2, .int .u64 x3, .int .u64 x4]
  | 2 => [.int .u64 (l0 % 2251799813685248), .int .u64 (l1 % 2251799813685248), .int .u64 l2, .int .u64 x3, .int .u64 x4]
  | 3 => [.int .u64 (l0 % 2251799813685248), .int .u64 (l1 % 2251799813685248), .int .u64 (l2 % 2251799813685248), .int .u64 l3, .int .u64 x4]
  | _ => [.int .u64 (l0 % 2251799813685248), .int .u64 (l1 % 2251799813685248), .int .u64 (l2 % 2251799813685248), .int .u64 (l3 % 2251799813685248), .int .u64 l4]

set_option maxHeartbeats 1600000 in
theorem least_any (a : Fe) (w : World) (ha : a.Ok) :
    Calls Tryz.prog 53 #[.agg #[.int .u64 a.x0, .int .u64 a.x1, .int .u64 a.x2, .int .u64 a.x3, .int .u64 a.x4]] w (FeOut (Fe.leastF a) w) := by
  have hg0 : ∀ c0 c1, w.grownBy ((w.alloc c0).alloc c1) none := fun c0 c1 => gb_alloc (gb_alloc (gb_refl _ _) _) _
  go_enter Tryz.func53, Tryz.ntmps53
  go_wp2_with (go_at_call 81; refine ((carry_fe a _ ha).mono fun _ _ => feOut_of).mono ?_; rintro e w1 ⟨c, hc, rfl, hg1⟩; have hg2 := gb_trans (hg0 _ _) hg1; have hR1 : Room5 w1 (w.heap.size + 1) 27 := Room5.grown ⟨_, _, _, _, _, Blk.newAt _ [.int .u64 0, .int .u64 0, .int .u64 0, .int .u64 0, .int .u64 0] _ (by simp)⟩ hg1 (by simp); have hA1 := Blk.grown (Blk.alloc (Blk.new w [.int .u64 a.x0, .int .u64 a.x1, .int .u64 a.x2, .int .u64 a.x3, .int .u64 a.x4] 27) _) hg1 (by simp); have z0 := hA1.cell (i := 0) rfl; have z1 := hA1.cell (i := 1) rfl; have z2 := hA1.cell (i := 2) rfl; have z3 := hA1.cell (i := 3) rfl; have z4 := hA1.cell (i := 4) rfl; have y0 := hA1.free 0; have y1 := hA1.free 1; have y2 := hA1.free 2; have y3 := hA1.free 3; have y4 := hA1.free 4)
  have hA2 : Blk (((((w1.setCell ⟨w.heap.size, 0, none⟩ (.int .u64 c.x0)).setCell ⟨w.heap.size, 1, none⟩ (.int .u64 c.x1)).setCell ⟨w.heap.size, 2, none⟩ (.int .u64 c.x2)).setCell ⟨w.heap.size, 3, none⟩ (.int .u64 c.x3)).setCell ⟨w.heap.size, 4, none⟩ (.int .u64 c.x4)) w.heap.size 27 [.int .u64 c.x0, .int .u64 c.x1, .int .u64 c.x2, .int .u64 c.x3, .int .u64 c.x4] := Room5.set5 ⟨_, _, _, _, _, hA1⟩ _ _ _ _ _
  have hR2 : Room5 (((((w1.setCell ⟨w.heap.size, 0, none⟩ (.int .u64 c.x0)).setCell ⟨w.heap.size, 1, none⟩ (.int .u64 c.x1)).setCell ⟨w.heap.size, 2, none⟩ (.int .u64 c.x2)).setCell ⟨w.heap.size, 3, none⟩ (.int .u64 c.x3)).setCell ⟨w.heap.size, 4, none⟩ (.int .u64 c.x4)) (w.heap.size + 1) 27 := room5_set (room5_set (room5_set (room5_set (room5_set hR1 (by simp) _) (by simp) _) (by simp) _) (by simp) _) (by simp) _
  have hg3 : w.grownBy (((((w1.setCell ⟨w.heap.size, 0, none⟩ (.int .u64 c.x0)).setCell ⟨w.heap.size, 1, none⟩ (.int .u64 c.x1)).setCell ⟨w.heap.size, 2, none⟩ (.int .u64 c.x2)).setCell ⟨w.heap.size, 3, none⟩ (.int .u64 c.x3)).setCell ⟨w.heap.size, 4, none⟩ (.int .u64 c.x4)) none := gb_set5 hg2 (Nat.le_refl _) _ _ _ _ _
  revert hA2 hR2 hg3
  clear hR1 hA1 z0 z1 z2 z3 z4 y0 y1 y2 y3 y4 hg1 hg2
  generalize (((((w1.setCell ⟨w.heap.size, 0, none⟩ (.int .u64 c.x0)).setCell ⟨w.heap.size, 1, none⟩ (.int .u64 c.x1)).setCell ⟨w.heap.size, 2, none⟩ (.int .u64 c.x2)).setCell ⟨w.heap.size, 3, none⟩ (.int .u64 c.x3)).setCell ⟨w.heap.size, 4, none⟩ (.int .u64 c.x4)) = W2
  intro hA2 hR2 hg3
  have hlow : Fe.Low c := by have e := hc.out; rw [e]; exact Fe.carry_low ha
  have hcr : Fe.Low c := hlow
  obtain ⟨n0, n1, n2, n3, n4, m0, m1, m2, m3, m4⟩ := hcr
  go_loop [10, 3] (fun i o => ∃ k : Nat, k ≤ 5 ∧ i = .int .i64 k ∧ o = .int .u64 (ov c k)) (fun i _ => 5 - (intOf i).toNat)
  case atStart => exact ⟨0, by omega, rfl, rfl⟩
  case round =>
    obtain ⟨k, hk, rfl, rfl⟩ := hrel
    rcases (show k = 0 ∨ k = 1 ∨ k = 2 ∨ k = 3 ∨ k = 4 ∨ k = 5 by omega) with rfl | rfl | rfl | rfl | rfl | rfl
    · have b0 := (ov_bd hlow 0).1
      have b1 := (ov_bd hlow 0).2
      have e0 := Lib.hid (show ov c 1 = (c.x0 + ov c 0) / 2251799813685248 from rfl)
      generalize ov c 0 = o at *
      have i0 : ∀ w, (Instr.index 27 (.agg #[.int .u64 c.x0, .int .u64 c.x1, .int .u64 c.x2, .int .u64 c.x3, .int .u64 c.x4]) (.int .i64 0)).run Tryz.prog w = .ok (.int .u64 c.x0) w := fun _ => by kernel_rfl
      go_wp2
      go_round
      case rel => exact ⟨1, by omega, rfl, by rw [e0.out]⟩
      case measure => simp [intOf]
    · have b0 := (ov_bd hlow 1).1
      have b1 := (ov_bd hlow 1).2
      have e0 := Lib.hid (show ov c 2 = (c.x1 + ov c 1) / 2251799813685248 from rfl)
      generalize ov c 1 = o at *
      have i0 : ∀ w, (Instr.index 27 (.agg #[.int .u64 c.x0, .int .u64 c.x1, .int .u64 c.x2, .int .u64 c.x3, .int .u64 c.x4]) (.int .i64 1)).run Tryz.prog w = .ok (.int .u64 c.x1) w := fun _ => by kernel_rfl
      go_wp2
      go_round
      case rel => exact ⟨2, by omega, rfl, by rw [e0.out]⟩
      case measure => simp [intOf]
    · have b0 := (ov_bd hlow 2).1
      have b1 := (ov_bd hlow 2).2
      have e0 := Lib.hid (show ov c 3 = (c.x2 + ov c 2) / 2251799813685248 from rfl)
      generalize ov c 2 = o at *
      have i0 : ∀ w, (Instr.index 27 (.agg #[.int .u64 c.x0, .int .u64 c.x1, .int .u64 c.x2, .int .u64 c.x3, .int .u64 c.x4]) (.int .i64 2)).run Tryz.prog w = .ok (.int .u64 c.x2) w := fun _ => by kernel_rfl
      go_wp2
      go_round
      case rel => exact ⟨3, by omega, rfl, by rw [e0.out]⟩
      case measure => simp [intOf]
    · have b0 := (ov_bd hlow 3).1
      have b1 := (ov_bd hlow 3).2
      have e0 := Lib.hid (show ov c 4 = (c.x3 + ov c 3) / 2251799813685248 from rfl)
      generalize ov c 3 = o at *
      have i0 : ∀ w, (Instr.index 27 (.agg #[.int .u64 c.x0, .int .u64 c.x1, .int .u64 c.x2, .int .u64 c.x3, .int .u64 c.x4]) (.int .i64 3)).run Tryz.prog w = .ok (.int .u64 c.x3) w := fun _ => by kernel_rfl
      go_wp2
      go_round
      case rel => exact ⟨4, by omega, rfl, by rw [e0.out]⟩
      case measure => simp [intOf]
    · have b0 := (ov_bd hlow 4).1
      have b1 := (ov_bd hlow 4).2
      have e0 := Lib.hid (show ov c 5 = (c.x4 + ov c 4) / 2251799813685248 from rfl)
      generalize ov c 4 = o at *
      have i0 : ∀ w, (Instr.index 27 (.agg #[.int .u64 c.x0, .int .u64 c.x1, .int .u64 c.x2, .int .u64 c.x3, .int .u64 c.x4]) (.int .i64 4)).run Tryz.prog w = .ok (.int .u64 c.x4) w := fun _ => by kernel_rfl
      go_wp2
      go_round
      case rel => exact ⟨5, by omega, rfl, by rw [e0.out]⟩
      case measure => simp [intOf]
    · have b0 := (ov_bd hlow 5).1
      have b1 := (ov_bd hlow 5).2
      have HO : Hid (ov c 5 = Fe.over5 c) := Lib.hid rfl
      generalize ov c 5 = o at *
      have z0 := hA2.cell (i := 0) rfl
      have y0 := hA2.free 0
      go_wp2
      have hA3 := hA2.set 0 (.int .u64 (c.x0 + 19 * o))
      have hR3 := room5_set hR2 (p := ⟨w.heap.size, 0, none⟩) (by simp) (.int .u64 (c.x0 + 19 * o))
      have hg4 := gb_set_new hg3 (p := ⟨w.heap.size, 0, none⟩) (Nat.le_refl _) (.int .u64 (c.x0 + 19 * o))
      have q0 : 0 ≤ c.x0 + 19 * o ∧ c.x0 + 19 * o < 4503599627370496 := by omega
      have HL0 : Hid (Fe.low0 c = c.x0 + 19 * o) := Lib.hid (by unfold Fe.low0; rw [← HO.out])
      clear hA2 hR2 hg3 z0 y0
      revert hA3 hR3 hg4
      generalize W2.setCell ⟨w.heap.size, 0, none⟩ (.int .u64 (c.x0 + 19 * o)) = W3
      generalize c.x0 + 19 * o = l0 at *
      obtain ⟨q00, q01⟩ := q0
      intro hA3 hR3 hg4
      obtain ⟨l1, h1⟩ : ∃ l, c.x1 + l0 / 2251799813685248 = l := ⟨_, rfl⟩
      have q10 : 0 ≤ l1 := by omega
      have q11 : l1 < 4503599627370496 := by omega
      have H1 := Lib.hid h1; clear h1
      obtain ⟨l2, h2⟩ : ∃ l, c.x2 + l1 / 2251799813685248 = l := ⟨_, rfl⟩
      have q20 : 0 ≤ l2 := by omega
      have q21 : l2 < 4503599627370496 := by omega
      have H2 := Lib.hid h2; clear h2
      obtain ⟨l3, h3⟩ : ∃ l, c.x3 + l2 / 2251799813685248 = l := ⟨_, rfl⟩
      have q30 : 0 ≤ l3 := by omega
      have q31 : l3 < 4503599627370496 := by omega
      have H3 := Lib.hid h3; clear h3
      obtain ⟨l4, h4⟩ : ∃ l, c.x4 + l3 / 2251799813685248 = l := ⟨_, rfl⟩
      have q40 : 0 ≤ l4 := by omega
      have q41 : l4 < 4503599627370496 := by omega
      have H4 := Lib.hid h4; clear h4
      go_loopw [24] (fun i wr => ∃ k : Nat, k ≤ 4 ∧ i = .int .i64 k ∧ w.grownBy wr none ∧ Blk wr w.heap.size 27 (leastL l0 l1 l2 l3 l4 c.x1 c.x2 c.x3 c.x4 k) ∧ Room5 wr (w.heap.size + 1) 27) (fun i _ => 4 - (intOf i).toNat)
      case atStart => exact ⟨0, by omega, rfl, hg4, hA3, hR3⟩
      case round =>
        obtain ⟨k, hk, rfl, hg, hA, hR⟩ := hrel
        clear hA3 hR3 hg4
        rcases (show k = 0 ∨ k = 1 ∨ k = 2 ∨ k = 3 ∨ k = 4 by omega) with rfl | rfl | rfl | rfl | rfl
        · have hB := hA
          unfold leastL at hB
          have z0 := hB.cell (i := 0) rfl
          have z1 := hB.cell (i := 1) rfl
          have f0 := hB.free 0
          have f1 := hB.free 1
          go_wp2
          go_region
          go_wp2
          rw [mask51 l0 (by omega) (by omega), H1.out]
          go_roundw
          case rel => exact ⟨1, by omega, rfl, gb_set_new (gb_set_new (gb_drew hg) (Nat.le_refl _) _) (Nat.le_refl _) _, ((hB.drew).set 1 (.int .u64 l1)).set 0 (.int .u64 (l0 % 2251799813685248)), room5_set (room5_set (hR.grown (gb_drew (gb_refl _ none)) (by simp)) (by simp) _) (by simp) _⟩
          case measure => simp [intOf]
        · have hB := hA
          unfold leastL at hB
          have z0 := hB.cell (i := 1) rfl
          have z1 := hB.cell (i := 2) rfl
          have f0 := hB.free 1
          have f1 := hB.free 2
          go_wp2
          go_region
          go_wp2
          rw [mask51 l1 (by omega) (by omega), H2.out]
          go_roundw
          case rel => exact ⟨2, by omega, rfl, gb_set_new (gb_set_new (gb_drew hg) (Nat.le_refl _) _) (Nat.le_refl _) _, ((hB.drew).set 2 (.int .u64 l2)).set 1 (.int .u64 (l1 % 2251799813685248)), room5_set (room5_set (hR.grown (gb_drew (gb_refl _ none)) (by simp)) (by simp) _) (by simp) _⟩
          case measure => simp [intOf]
        · have hB := hA
          unfold leastL at hB
          have z0 := hB.cell (i := 2) rfl
          have z1 := hB.cell (i := 3) rfl
          have f0 := hB.free 2
          have f1 := hB.free 3
          go_wp2
          go_region
          go_wp2
          rw [mask51 l2 (by omega) (by omega), H3.out]
          go_roundw
          case rel => exact ⟨3, by omega, rfl, gb_set_new (gb_set_new (gb_drew hg) (Nat.le_refl _) _) (Nat.le_refl _) _, ((hB.drew).set 3 (.int .u64 l3)).set 2 (.int .u64 (l2 % 2251799813685248)), room5_set (room5_set (hR.grown (gb_drew (gb_refl _ none)) (by simp)) (by simp) _) (by simp) _⟩
          case measure => simp [intOf]
        · have hB := hA
          unfold leastL at hB
          have z0 := hB.cell (i := 3) rfl
          have z1 := hB.cell (i := 4) rfl
          have f0 := hB.free 3
          have f1 := hB.free 4
          go_wp2
          go_region
          go_wp2
          rw [mask51 l3 (by omega) (by omega), H4.out]
          go_roundw
          case rel => exact ⟨4, by omega, rfl, gb_set_new (gb_set_new (gb_drew hg) (Nat.le_refl _) _) (Nat.le_refl _) _, ((hB.drew).set 4 (.int .u64 l4)).set 3 (.int .u64 (l3 % 2251799813685248)), room5_set (room5_set (hR.grown (gb_drew (gb_refl _ none)) (by simp)) (by simp) _) (by simp) _⟩
          case measure => simp [intOf]
        · have hB := hA
          unfold leastL at hB
          have z0 := hB.cell (i := 0) rfl
          have z1 := hB.cell (i := 1) rfl
          have z2 := hB.cell (i := 2) rfl
          have z3 := hB.cell (i := 3) rfl
          have z4 := hB.cell (i := 4) rfl
          have y4 := hB.free 4
          obtain ⟨u0, u1, u2, u3, u4, hR1⟩ := hR
          have t0 := hR1.cell (i := 0) rfl
          have t1 := hR1.cell (i := 1) rfl
          have t2 := hR1.cell (i := 2) rfl
          have t3 := hR1.cell (i := 3) rfl
          have t4 := hR1.cell (i := 4) rfl
          have v0 := hR1.free 0
          have v1 := hR1.free 1
          have v2 := hR1.free 2
          have v3 := hR1.free 3
          have v4 := hR1.free 4
          go_wp2
          rw [mask51 l4 (by omega) (by omega)]
          refine bodyPost_ret (v := .agg #[.int .u64 (l0 % 2251799813685248), .int .u64 (l1 % 2251799813685248), .int .u64 (l2 % 2251799813685248), .int .u64 (l3 % 2251799813685248), .int .u64 (l4 % 2251799813685248)]) ?_ rfl ⟨⟨l0 % 2251799813685248, l1 % 2251799813685248, l2 % 2251799813685248, l3 % 2251799813685248, l4 % 2251799813685248⟩, Lib.hid ?_, rfl, gb_set5 (gb_set_new hg (Nat.le_refl _) _) (by omega) _ _ _ _ _⟩
          · simp [results, Tryz.results53, go_sem, t0, t1, t2, t3, t4]
          · have e := hc.out
            have e1 : Fe.low1 c = l1 := by unfold Fe.low1; rw [HL0.out, H1.out]
            have e2 : Fe.low2 c = l2 := by unfold Fe.low2; rw [e1, H2.out]
            have e3 : Fe.low3 c = l3 := by unfold Fe.low3; rw [e2, H3.out]
            have e4 : Fe.low4 c = l4 := by unfold Fe.low4; rw [e3, H4.out]
            rw [← Fe.least_carry, ← e, Fe.least_is hlow, HL0.out, e1, e2, e3, e4]
end Go.Proofs.YtcmnecnbcohaeaaGreatDoor

/- field: words and bytes. -/
namespace Go.Proofs.YtcmnecnbcohaeaaGreatDoor
open Go.RowKit

def bytV (x : Int) (i : Nat) : Value := .int .u8 (x / 2 ^ (8 * i) % 256)
set_option maxHeartbeats 400000 in
theorem putWord_any (B off n c : Nat) (T : TypeId) (L : List Value) (x : Int) (w : World) (hn : 8 ≤ n) (hL : off + 8 ≤ L.length) (hb : Blk w B T L) :
    Calls Tryz.prog 54 #[.slice (some ⟨B, off, none⟩) n c, .int .u64 x] w fun e w' => e = .returned (.tuple #[]) ∧ w.grownBy w' (some B) ∧ Blk w' B T (putN L off (bytV x) 8) := by
  go_enter Tryz.func54, Tryz.ntmps54
  go_wp2
  go_loopw [5] (fun i wr => ∃ k : Nat, k ≤ 8 ∧ i = .int .i64 k ∧ w.grownBy wr (some B) ∧ Blk wr B T (putN L off (bytV x) k)) (fun i _ => 8 - (intOf i).toNat)
  case atStart => exact ⟨0, by omega, rfl, gb_refl _ _, hb⟩
  case round =>
    obtain ⟨k, hk, rfl, hg, hB⟩ := hrel
    by_cases hlt : k < 8
    · have hi : (k : Int) < (n : Int) := by omega
      have hs : 0 ≤ 8 * (k : Int) := by omega
      have hs2 : 8 * (k : Int) < 64 := by omega
      have hfr := hB.free (off + k)
      obtain ⟨v0, hv0⟩ : ∃ v, wr.cell? ⟨B, off + k, none⟩ = some v := ⟨_, hB.cell (List.getElem?_eq_getElem (by rw [putN_length]; omega))⟩
      go_wp2
      go_roundw
      case rel => exact ⟨k + 1, by omega, by go_num, gb_set hg _ _, hB.set _ _⟩
      case measure => simp [intOf]; omega
    · obtain rfl : k = 8 := by omega
      go_wp2
      go_end0
      exact ⟨rfl, hg, hB⟩

/-- the number of the first k bytes, the lowest first -/
def wordOf (f : Nat → Int) : Nat → Int
  | 0 => 0
  | k + 1 => wordOf f k + f k * 2 ^ (8 * k)
theorem two_pow_le {a b : Nat} (h : a ≤ b) : (2 : Int) ^ a ≤ 2 ^ b := by
  have h1 := Int.ofNat_le.2 (Nat.pow_le_pow_right (n := 2) (by decide) h)
  simpa [Int.natCast_pow] using h1
theorem wordOf_bd (f : Nat → Int) (hf : ∀ i, 0 ≤ f i ∧ f i < 256) (k : Nat) : 0 ≤ wordOf f k ∧ wordOf f k < 2 ^ (8 * k) := by
  induction k with
  | zero => simp [wordOf]
  | succ k ih =>
    have h := hf k
    have e : (2 : Int) ^ (8 * (k + 1)) = 256 * 2 ^ (8 * k) := by rw [show 8 * (k + 1) = 8 * k + 8 by omega, Int.pow_add]; omega
    rw [wordOf, e]
    generalize (2 : Int) ^ (8 * k) = p at *
    have h1 : f k * p ≤ 255 * p := Int.mul_le_mul_of_nonneg_right (by omega) (by omega)
    have h2 : 0 ≤ f k * p := Int.mul_nonneg h.1 (by omega)
    omega
theorem or_add (a b : Int) (s : Nat) (h0 : 0 ≤ a) (h1 : a < 2 ^ s) (h2 : a < 18446744073709551616) (k0 : 0 ≤ b) (k1 : b * 2 ^ s < 18446744073709551616) : bits .or .u64 a (b * 2 ^ s) = a + b * 2 ^ s := by
  obtain ⟨a, rfl⟩ := Int.eq_ofNat_of_zero_le h0
  obtain ⟨b, rfl⟩ := Int.eq_ofNat_of_zero_le k0
  have e : (b : Int) * 2 ^ s = ((2 ^ s * b : Nat) : Int) := by rw [Int.natCast_mul, Int.natCast_pow, Int.mul_comm]; rfl
  have ha : a < 2 ^ s := by
    have : ((2 ^ s : Nat) : Int) = (2 : Int) ^ s := by rw [Int.natCast_pow]; rfl
    omega
  rw [e] at k1 ⊢
  rw [u64_or_nat _ _ (by omega) (by omega), Nat.or_comm, ← Nat.two_pow_add_eq_or_of_lt ha]
  omega
set_option maxHeartbeats 400000 in
theorem getWord_any (B off n c : Nat) (f : Nat → Int) (w : World) (hn : 8 ≤ n) (hf : ∀ i, 0 ≤ f i ∧ f i < 256) (hc : ∀ i, i < 8 → w.cell? ⟨B, off + i, none⟩ = some (.int .u8 (f i))) :
    Calls Tryz.prog 51 #[.slice (some ⟨B, off, none⟩) n c] w fun e w' => e = .returned (.int .u64 (wordOf f 8)) ∧ w = w' := by
  go_enter Tryz.func51, Tryz.ntmps51
  go_wp2
  go_loop [3, 5] (fun v i => ∃ k : Nat, k ≤ 8 ∧ i = .int .i64 k ∧ v = .int .u64 (wordOf f k)) (fun _ i => 8 - (intOf i).toNat)
  case atStart => exact ⟨0, by omega, rfl, rfl⟩
  case round =>
    obtain ⟨k, hk, rfl, rfl⟩ := hrel
    by_cases hlt : k < 8
    · have hi : (k : Int) < (n : Int) := by omega
      have hs : 0 ≤ 8 * (k : Int) := by omega
      have hs2 : 8 * (k : Int) < 64 := by omega
      have c0 := hc k hlt
      have b0 := (hf k).1
      have b1 := (hf k).2
      have Hw : Hid (bits .or .u64 (wordOf f k) (IntKind.u64.wrap (f k * 2 ^ (8 * k))) = wordOf f (k + 1)) := by
        apply Lib.hid
        have hb := wordOf_bd f hf k
        have hb1 := wordOf_bd f hf (k + 1)
        have hp : (2 : Int) ^ (8 * (k + 1)) ≤ 2 ^ 64 := two_pow_le (by omega)
        have hp2 : (2 : Int) ^ (8 * k) ≤ 2 ^ 64 := two_pow_le (by omega)
        have h64 : (2 : Int) ^ 64 = 18446744073709551616 := by decide
        have hm : 0 ≤ f k * 2 ^ (8 * k) := Int.mul_nonneg b0 (by omega)
        rw [wordOf] at hb1
        rw [wrapw, Fe.w64_in hm (by omega), wordOf]
        exact or_add _ _ _ hb.1 hb.2 (by omega) b0 (by omega)
      go_wp2
      go_round
      case rel => exact ⟨k + 1, by omega, by go_num, by rw [Hw.out]⟩
      case measure => simp [intOf]; omega
    · obtain rfl : k = 8 := by omega
      go_wp2
      go_ret
      exact ⟨rfl, rfl⟩

theorem or_lem (a b : Int) (s : Nat) (p q : Int) (hp : (2 : Int) ^ s = p) (hq : p * q = 18446744073709551616) (h0 : 0 ≤ a) (h1 : a < p) (hq0 : 0 < q) : bits .or .u64 a (IntKind.u64.wrap (b * p)) = a + (b % q) * p := by
  have hp0 : 0 < p := by omega
  have hpp : p ≤ 18446744073709551616 := by
    have : p * 1 ≤ p * q := Int.mul_le_mul_of_nonneg_left (by omega) (by omega)
    omega
  have e : IntKind.u64.wrap (b * p) = (b % q) * 2 ^ s := by
    rw [wrapw, hp]
    unfold Fe.w64
    rw [← hq, Int.mul_comm b p, Int.mul_comm (b % q) p, Int.mul_emod_mul_of_pos _ _ hp0]
  have hb0 : 0 ≤ b % q := Int.emod_nonneg _ (by omega)
  have hb1 : b % q < q := Int.emod_lt_of_pos _ hq0
  have hb2 : (b % q) * p < 18446744073709551616 := by
    have h : (b % q) * p ≤ (q - 1) * p := Int.mul_le_mul_of_nonneg_right (by omega) (by omega)
    have e2 : (q - 1) * p = 18446744073709551616 - p := by rw [Int.sub_mul, Int.mul_comm q p, hq, Int.one_mul]
    omega
  rw [e, or_add a _ s h0 (by rw [hp]; exact h1) (by omega) hb0 (by rw [hp]; exact hb2), hp]
def bytesV (x : Int) : List Value := (List.range 32).map (bytV x)
theorem bytV_word (x : Int) (k i : Nat) (h : i < 8) : bytV (x / 2 ^ (64 * k) % 18446744073709551616) i = bytV x (8 * k + i) := by
  unfold bytV
  have e : x / 2 ^ (8 * (8 * k + i)) = x / 2 ^ (64 * k) / 2 ^ (8 * i) := by
    rw [show 8 * (8 * k + i) = 64 * k + 8 * i by omega, Int.pow_add, Int.ediv_ediv_of_nonneg (Int.le_of_lt (Int.pow_pos (by decide)))]
  rw [e]
  generalize x / 2 ^ (64 * k) = y
  congr 1
  obtain rfl | rfl | rfl | rfl | rfl | rfl | rfl | rfl : i = 0 ∨ i = 1 ∨ i = 2 ∨ i = 3 ∨ i = 4 ∨ i = 5 ∨ i = 6 ∨ i = 7 := by omega
  all_goals simp only [Nat.mul_zero, Nat.mul_one, Int.reducePow, Nat.reduceMul]; omega
def zeros32 : List Value := List.replicate 32 (.int .u8 0)
theorem bytes_laid (x : Int) : putN (putN (putN (putN zeros32 0 (bytV (x / 2 ^ (64 * 0) % 18446744073709551616)) 8) 8 (bytV (x / 2 ^ (64 * 1) % 18446744073709551616)) 8) 16 (bytV (x / 2 ^ (64 * 2) % 18446744073709551616)) 8) 24 (bytV (x / 2 ^ (64 * 3) % 18446744073709551616)) 8 = bytesV x := by
  apply List.ext_getElem?
  intro i
  have l0 : zeros32.length = 32 := rfl
  rw [putN_get _ _ _ _ _ (by simp only [putN_length, l0]; omega), putN_get _ _ _ _ _ (by simp only [putN_length, l0]; omega), putN_get _ _ _ _ _ (by simp only [putN_length, l0]; omega), putN_get _ _ _ _ _ (by rw [l0]; omega)]
  by_cases h : i < 32
  · have e : (bytesV x)[i]? = some (bytV x i) := by unfold bytesV; rw [List.getElem?_map, List.getElem?_range h]; rfl
    rw [e]
    by_cases h3 : 24 ≤ i
    · rw [if_pos (by omega), bytV_word x 3 (i - 24) (by omega), show 8 * 3 + (i - 24) = i by omega]
    · rw [if_neg (by omega)]
      by_cases h2 : 16 ≤ i
      · rw [if_pos (by omega), bytV_word x 2 (i - 16) (by omega), show 8 * 2 + (i - 16) = i by omega]
      · rw [if_neg (by omega)]
        by_cases h1 : 8 ≤ i
        · rw [if_pos (by omega), bytV_word x 1 (i - 8) (by omega), show 8 * 1 + (i - 8) = i by omega]
        · rw [if_neg (by omega), if_pos (by omega), bytV_word x 0 (i - 0) (by omega), show 8 * 0 + (i - 0) = i by omega]
  · rw [if_neg (by omega), if_neg (by omega), if_neg (by omega), if_neg (by omega), List.getElem?_eq_none (by rw [l0]; omega), List.getElem?_eq_none (by simp [bytesV]; omega)]
theorem m_bd (a : Fe) : 0 ≤ (Fe.m a : Int) ∧ (Fe.m a : Int) < 57896044618658097711785492504343953926634992332820282019728792003956564819949 := by
  have := Fe.m_lt a
  unfold Fe.P at this
  omega
theorem least_words (a : Fe) :
    (Fe.leastF a).x0 + (Fe.leastF a).x1 % 8192 * 2251799813685248 = (Fe.m a : Int) / 2 ^ (64 * 0) % 18446744073709551616 ∧
    (Fe.leastF a).x1 / 8192 + (Fe.leastF a).x2 % 67108864 * 274877906944 = (Fe.m a : Int) / 2 ^ (64 * 1) % 18446744073709551616 ∧
    (Fe.leastF a).x2 / 67108864 + (Fe.leastF a).x3 % 549755813888 * 33554432 = (Fe.m a : Int) / 2 ^ (64 * 2) % 18446744073709551616 ∧
    (Fe.leastF a).x3 / 549755813888 + (Fe.leastF a).x4 % 4503599627370496 * 4096 = (Fe.m a : Int) / 2 ^ (64 * 3) % 18446744073709551616 := by
  have hl := m_bd a
  unfold Fe.leastF
  generalize (Fe.m a : Int) = x at *
  have e2 : x / 5070602400912917605986812821504 = x / 2251799813685248 / 2251799813685248 := by rw [Int.ediv_ediv_of_nonneg (by decide)]; rfl
  have e3 : x / 11417981541647679048466287755595961091061972992 = x / 2251799813685248 / 2251799813685248 / 2251799813685248 := by rw [Int.ediv_ediv_of_nonneg (by decide), Int.ediv_ediv_of_nonneg (by decide)]; rfl
  have e4 : x / 25711008708143844408671393477458601640355247900524685364822016 = x / 2251799813685248 / 2251799813685248 / 2251799813685248 / 2251799813685248 := by rw [Int.ediv_ediv_of_nonneg (by decide), Int.ediv_ediv_of_nonneg (by decide), Int.ediv_ediv_of_nonneg (by decide)]; rfl
  rw [e2, e3, e4]
  have p1 : (2 : Int) ^ (64 * 1) = 18446744073709551616 := by decide
  have p2 : (2 : Int) ^ (64 * 2) = 340282366920938463463374607431768211456 := by decide
  have p3 : (2 : Int) ^ (64 * 3) = 6277101735386680763835789423207666416102355444464034512896 := by decide
  rw [p1, p2, p3]
  obtain ⟨d0, q1, b0, b0', f0⟩ : ∃ d q : Int, 0 ≤ d ∧ d < 2251799813685248 ∧ x = 2251799813685248 * q + d := ⟨x % 2251799813685248, x / 2251799813685248, by omega, by omega, by omega⟩
  obtain ⟨d1, q2, b1, b1', f1⟩ : ∃ d q : Int, 0 ≤ d ∧ d < 2251799813685248 ∧ q1 = 2251799813685248 * q + d := ⟨q1 % 2251799813685248, q1 / 2251799813685248, by omega, by omega, by omega⟩
  obtain ⟨d2, q3, b2, b2', f2⟩ : ∃ d q : Int, 0 ≤ d ∧ d < 2251799813685248 ∧ q2 = 2251799813685248 * q + d := ⟨q2 % 2251799813685248, q2 / 2251799813685248, by omega, by omega, by omega⟩
  obtain ⟨d3, q4, b3, b3', f3⟩ : ∃ d q : Int, 0 ≤ d ∧ d < 2251799813685248 ∧ q3 = 2251799813685248 * q + d := ⟨q3 % 2251799813685248, q3 / 2251799813685248, by omega, by omega, by omega⟩
  have g1 : x / 2251799813685248 = q1 := by omega
  have g2 : q1 / 2251799813685248 = q2 := by omega
  have g3 : q2 / 2251799813685248 = q3 := by omega
  have g4 : q3 / 2251799813685248 = q4 := by omega
  have m0 : x % 2251799813685248 = d0 := by omega
  have m1 : q1 % 2251799813685248 = d1 := by omega
  have m2 : q2 % 2251799813685248 = d2 := by omega
  have m3 : q3 % 2251799813685248 = d3 := by omega
  simp only [g1, g2, g3, g4, m0, m1, m2, m3]
  have b4 : 0 ≤ q4 := by omega
  have b4' : q4 < 2251799813685248 := by omega
  have m4 : q4 % 2251799813685248 = q4 := by omega
  rw [m4]
  have w1 : x / 18446744073709551616 = d1 / 8192 + 274877906944 * q2 := by omega
  have w2 : x / 340282366920938463463374607431768211456 = d2 / 67108864 + 33554432 * q3 := by omega
  have w3 : x / 6277101735386680763835789423207666416102355444464034512896 = d3 / 549755813888 + 4096 * q4 := by omega
  rw [w1, w2, w3]
  refine ⟨?_, ?_, ?_, ?_⟩ <;> omega
end Go.Proofs.YtcmnecnbcohaeaaGreatDoor

/- field: bytesOf: the 32 bytes of the number from 0 to p - 1. -/
namespace Go.Proofs.YtcmnecnbcohaeaaGreatDoor
open Go.RowKit

theorem least_bd (a : Fe) : (0 ≤ (Fe.leastF a).x0 ∧ (Fe.leastF a).x0 < 2251799813685248) ∧ (0 ≤ (Fe.leastF a).x1 ∧ (Fe.leastF a).x1 < 2251799813685248) ∧ (0 ≤ (Fe.leastF a).x2 ∧ (Fe.leastF a).x2 < 2251799813685248) ∧
    (0 ≤ (Fe.leastF a).x3 ∧ (Fe.leastF a).x3 < 2251799813685248) ∧ (0 ≤ (Fe.leastF a).x4 ∧ (Fe.leastF a).x4 < 2251799813685248) := by
  unfold Fe.leastF
  refine ⟨⟨?_, ?_⟩, ⟨?_, ?_⟩, ⟨?_, ?_⟩, ⟨?_, ?_⟩, ?_, ?_⟩ <;> dsimp only <;> omega
theorem info_b32 : (Tryz.prog.info? 57).map (·.size) = some 32 := by kernel_rfl
theorem bytesV_one (x : Int) : (bytesV x).toArray.all (·.oneCell') = true := by
  simp [bytesV, bytV, Value.oneCell']
/-- an array of 32 bytes comes back -/
abbrev BytS (w : World) (r : Fe) (w' : World) : Prop := Blk w' w.heap.size 27 [.int .u64 r.x0, .int .u64 r.x1, .int .u64 r.x2, .int .u64 r.x3, .int .u64 r.x4] ∧ w'.cell? ⟨w.heap.size, 0, none⟩ = some (.int .u64 r.x0) ∧ w'.cell? ⟨w.heap.size, 1, none⟩ = some (.int .u64 r.x1) ∧ w'.cell? ⟨w.heap.size, 2, none⟩ = some (.int .u64 r.x2) ∧ w'.cell? ⟨w.heap.size, 3, none⟩ = some (.int .u64 r.x3) ∧ w'.cell? ⟨w.heap.size, 4, none⟩ = some (.int .u64 r.x4)
theorem bytS_mk {w w' : World} {r : Fe} (h : Blk w' w.heap.size 27 [.int .u64 r.x0, .int .u64 r.x1, .int .u64 r.x2, .int .u64 r.x3, .int .u64 r.x4]) : BytS w r w' := ⟨h, h.cell (i := 0) rfl, h.cell (i := 1) rfl, h.cell (i := 2) rfl, h.cell (i := 3) rfl, h.cell (i := 4) rfl⟩
theorem bytS_keep {w w1 w2 : World} {r : Fe} {B : Nat} (hg : w1.grownBy w2 (some B)) (hne : w.heap.size ≠ B) (h : BytS w r w1) : BytS w r w2 := bytS_mk (h.1.grown hg (some_ne hne))
set_option maxRecDepth 100000 in
set_option maxHeartbeats 1600000 in
theorem bytesOf_any (a : Fe) (w : World) (ha : a.Ok) :
    Calls Tryz.prog 32 #[.agg #[.int .u64 a.x0, .int .u64 a.x1, .int .u64 a.x2, .int .u64 a.x3, .int .u64 a.x4]] w fun e w' => e = .returned (.agg (bytesV (Fe.m a)).toArray) ∧ w.grownBy w' none := by
  have hg0 : ∀ c0 c1, w.grownBy ((w.alloc c0).alloc c1) none := fun c0 c1 => gb_alloc (gb_alloc (gb_refl _ _) _) _
  go_enter Tryz.func32, Tryz.ntmps32
  go_wp2_with (go_at_call 53; refine (least_any a _ ha).mono ?_; rintro e w1 ⟨r, hr, rfl, hg1⟩; have hg2 := gb_trans (hg0 _ _) hg1; have hA1 := Blk.grown (Blk.alloc (Blk.new w [.int .u64 a.x0, .int .u64 a.x1, .int .u64 a.x2, .int .u64 a.x3, .int .u64 a.x4] 27) _) hg1 (by simp); have z0 := hA1.cell (i := 0) rfl; have z1 := hA1.cell (i := 1) rfl; have z2 := hA1.cell (i := 2) rfl; have z3 := hA1.cell (i := 3) rfl; have z4 := hA1.cell (i := 4) rfl; have y0 := hA1.free 0; have y1 := hA1.free 1; have y2 := hA1.free 2; have y3 := hA1.free 3; have y4 := hA1.free 4)
  have hlt1 : w.heap.size + 1 < w1.heap.size := by have := hg1.size; simp at this; omega
  have hA2 : Blk ((((((w1.setCell ⟨w.heap.size, 0, none⟩ (.int .u64 r.x0)).setCell ⟨w.heap.size, 1, none⟩ (.int .u64 r.x1)).setCell ⟨w.heap.size, 2, none⟩ (.int .u64 r.x2)).setCell ⟨w.heap.size, 3, none⟩ (.int .u64 r.x3)).setCell ⟨w.heap.size, 4, none⟩ (.int .u64 r.x4)).alloc (.cells #[.int .u8 0, .int .u8 0, .int .u8 0, .int .u8 0, .int .u8 0, .int .u8 0, .int .u8 0, .int .u8 0, .int .u8 0, .int .u8 0, .int .u8 0, .int .u8 0, .int .u8 0, .int .u8 0, .int .u8 0, .int .u8 0, .int .u8 0, .int .u8 0, .int .u8 0, .int .u8 0, .int .u8 0, .int .u8 0, .int .u8 0, .int .u8 0, .int .u8 0, .int .u8 0, .int .u8 0, .int .u8 0, .int .u8 0, .int .u8 0, .int .u8 0, .int .u8 0] 57)) w.heap.size 27 [.int .u64 r.x0, .int .u64 r.x1, .int .u64 r.x2, .int .u64 r.x3, .int .u64 r.x4] := Blk.alloc (Room5.set5 ⟨_, _, _, _, _, hA1⟩ _ _ _ _ _) _
  have hC2 : Blk ((((((w1.setCell ⟨w.heap.size, 0, none⟩ (.int .u64 r.x0)).setCell ⟨w.heap.size, 1, none⟩ (.int .u64 r.x1)).setCell ⟨w.heap.size, 2, none⟩ (.int .u64 r.x2)).setCell ⟨w.heap.size, 3, none⟩ (.int .u64 r.x3)).setCell ⟨w.heap.size, 4, none⟩ (.int .u64 r.x4)).alloc (.cells #[.int .u8 0, .int .u8 0, .int .u8 0, .int .u8 0, .int .u8 0, .int .u8 0, .int .u8 0, .int .u8 0, .int .u8 0, .int .u8 0, .int .u8 0, .int .u8 0, .int .u8 0, .int .u8 0, .int .u8 0, .int .u8 0, .int .u8 0, .int .u8 0, .int .u8 0, .int .u8 0, .int .u8 0, .int .u8 0, .int .u8 0, .int .u8 0, .int .u8 0, .int .u8 0, .int .u8 0, .int .u8 0, .int .u8 0, .int .u8 0, .int .u8 0, .int .u8 0] 57)) w1.heap.size 57 zeros32 := Blk.newAt _ zeros32 _ (by simp)
  have hR2 : Blk ((((((w1.setCell ⟨w.heap.size, 0, none⟩ (.int .u64 r.x0)).setCell ⟨w.heap.size, 1, none⟩ (.int .u64 r.x1)).setCell ⟨w.heap.size, 2, none⟩ (.int .u64 r.x2)).setCell ⟨w.heap.size, 3, none⟩ (.int .u64 r.x3)).setCell ⟨w.heap.size, 4, none⟩ (.int .u64 r.x4)).alloc (.cells #[.int .u8 0, .int .u8 0, .int .u8 0, .int .u8 0, .int .u8 0, .int .u8 0, .int .u8 0, .int .u8 0, .int .u8 0, .int .u8 0, .int .u8 0, .int .u8 0, .int .u8 0, .int .u8 0, .int .u8 0, .int .u8 0, .int .u8 0, .int .u8 0, .int .u8 0, .int .u8 0, .int .u8 0, .int .u8 0, .int .u8 0, .int .u8 0, .int .u8 0, .int .u8 0, .int .u8 0, .int .u8 0, .int .u8 0, .int .u8 0, .int .u8 0, .int .u8 0] 57)) (w.heap.size + 1) 57 zeros32 := Blk.alloc ((((((Blk.grown (Blk.newAt (w.alloc _) zeros32 _ (by simp)) hg1 (by simp)).other (by simp) _).other (by simp) _).other (by simp) _).other (by simp) _).other (by simp) _) _
  have hg3 : w.grownBy ((((((w1.setCell ⟨w.heap.size, 0, none⟩ (.int .u64 r.x0)).setCell ⟨w.heap.size, 1, none⟩ (.int .u64 r.x1)).setCell ⟨w.heap.size, 2, none⟩ (.int .u64 r.x2)).setCell ⟨w.heap.size, 3, none⟩ (.int .u64 r.x3)).setCell ⟨w.heap.size, 4, none⟩ (.int .u64 r.x4)).alloc (.cells #[.int .u8 0, .int .u8 0, .int .u8 0, .int .u8 0, .int .u8 0, .int .u8 0, .int .u8 0, .int .u8 0, .int .u8 0, .int .u8 0, .int .u8 0, .int .u8 0, .int .u8 0, .int .u8 0, .int .u8 0, .int .u8 0, .int .u8 0, .int .u8 0, .int .u8 0, .int .u8 0, .int .u8 0, .int .u8 0, .int .u8 0, .int .u8 0, .int .u8 0, .int .u8 0, .int .u8 0, .int .u8 0, .int .u8 0, .int .u8 0, .int .u8 0, .int .u8 0] 57)) none := gb_alloc (gb_set5 hg2 (Nat.le_refl _) _ _ _ _ _) _
  revert hA2 hC2 hR2 hg3
  clear hA1 z0 z1 z2 z3 z4 y0 y1 y2 y3 y4
  generalize ((((((w1.setCell ⟨w.heap.size, 0, none⟩ (.int .u64 r.x0)).setCell ⟨w.heap.size, 1, none⟩ (.int .u64 r.x1)).setCell ⟨w.heap.size, 2, none⟩ (.int .u64 r.x2)).setCell ⟨w.heap.size, 3, none⟩ (.int .u64 r.x3)).setCell ⟨w.heap.size, 4, none⟩ (.int .u64 r.x4)).alloc (.cells #[.int .u8 0, .int .u8 0, .int .u8 0, .int .u8 0, .int .u8 0, .int .u8 0, .int .u8 0, .int .u8 0, .int .u8 0, .int .u8 0, .int .u8 0, .int .u8 0, .int .u8 0, .int .u8 0, .int .u8 0, .int .u8 0, .int .u8 0, .int .u8 0, .int .u8 0, .int .u8 0, .int .u8 0, .int .u8 0, .int .u8 0, .int .u8 0, .int .u8 0, .int .u8 0, .int .u8 0, .int .u8 0, .int .u8 0, .int .u8 0, .int .u8 0, .int .u8 0] 57)) = W2
  obtain ⟨C, hC⟩ : ∃ C, C = w1.heap.size := ⟨_, rfl⟩
  rw [← hC] at hlt1
  rw [← hC]
  clear hg1 hg2 hC
  intro hA2 hC2 hR2 hg3
  obtain ⟨⟨p00, p01⟩, ⟨p10, p11⟩, ⟨p20, p21⟩, ⟨p30, p31⟩, p40, p41⟩ := least_bd a
  have hwds := least_words a
  rw [← hr.out] at p00 p01 p10 p11 p20 p21 p30 p31 p40 p41 hwds
  have HW := Lib.hid hwds; clear hwds
  have hneC : w.heap.size ≠ C := by omega
  have hneR : w.heap.size + 1 ≠ C := by omega
  have hS0 : BytS w r W2.drew := bytS_mk hA2.drew
  have K0 := Lib.hid (or_lem r.x0 r.x1 51 2251799813685248 8192 (by decide) (by decide) p00 p01 (by decide))
  have K1 := Lib.hid (or_lem (r.x1 / 8192) r.x2 38 274877906944 67108864 (by decide) (by decide) (by omega) (by omega) (by decide))
  have K2 := Lib.hid (or_lem (r.x2 / 67108864) r.x3 25 33554432 549755813888 (by decide) (by decide) (by omega) (by omega) (by decide))
  have K3 := Lib.hid (or_lem (r.x3 / 549755813888) r.x4 12 4096 4503599627370496 (by decide) (by decide) (by omega) (by omega) (by decide))
  go_region_held3 (fun w' => Blk w' w.heap.size 27 [.int .u64 r.x0, .int .u64 r.x1, .int .u64 r.x2, .int .u64 r.x3, .int .u64 r.x4] ∧ w'.cell? ⟨w.heap.size, 0, none⟩ = some (.int .u64 r.x0) ∧ w'.cell? ⟨w.heap.size, 1, none⟩ = some (.int .u64 r.x1) ∧ w'.cell? ⟨w.heap.size, 2, none⟩ = some (.int .u64 r.x2) ∧ w'.cell? ⟨w.heap.size, 3, none⟩ = some (.int .u64 r.x3) ∧ w'.cell? ⟨w.heap.size, 4, none⟩ = some (.int .u64 r.x4))
    (first | (with_reducible exact hS0) | (with_reducible exact bytS_keep (by assumption) hneC (by assumption)))
    (first | (go_simp; go_at_call 54; refine (putWord_any C 0 32 32 57 _ _ _ (by decide) (by decide) hC2.drew).mono ?_; rintro e v1 ⟨rfl, ge1, hd1⟩))
  rw [K0.out, HW.out.1] at hd1
  have hA3 := (hA2.drew).grown ge1 (some_ne hneC)
  have hR3 := (hR2.drew).grown ge1 (some_ne hneR)
  have hg4 := gb_then (gb_drew hg3) ge1 (by omega)
  have hS1 : BytS w r v1.drew := bytS_mk hA3.drew
  clear ge1 hS0 hA2 hR2 hg3 hC2
  go_wp2
  go_region_held3 (fun w' => Blk w' w.heap.size 27 [.int .u64 r.x0, .int .u64 r.x1, .int .u64 r.x2, .int .u64 r.x3, .int .u64 r.x4] ∧ w'.cell? ⟨w.heap.size, 0, none⟩ = some (.int .u64 r.x0) ∧ w'.cell? ⟨w.heap.size, 1, none⟩ = some (.int .u64 r.x1) ∧ w'.cell? ⟨w.heap.size, 2, none⟩ = some (.int .u64 r.x2) ∧ w'.cell? ⟨w.heap.size, 3, none⟩ = some (.int .u64 r.x3) ∧ w'.cell? ⟨w.heap.size, 4, none⟩ = some (.int .u64 r.x4))
    (first | (with_reducible exact hS1) | (with_reducible exact bytS_keep (by assumption) hneC (by assumption)))
    (first | (go_simp; go_at_call 54; refine (putWord_any C 8 24 24 57 _ _ _ (by decide) (by simp only [putN_length]; decide) hd1.drew).mono ?_; rintro e v2 ⟨rfl, ge2, hd2⟩))
  rw [K1.out, HW.out.2.1] at hd2
  have hA4 := (hA3.drew).grown ge2 (some_ne hneC)
  have hR4 := (hR3.drew).grown ge2 (some_ne hneR)
  have hg5 := gb_then (gb_drew hg4) ge2 (by omega)
  have hS2 : BytS w r v2.drew := bytS_mk hA4.drew
  clear ge2 hS1 hA3 hR3 hg4 hd1
  go_wp2
  go_region_held3 (fun w' => Blk w' w.heap.size 27 [.int .u64 r.x0, .int .u64 r.x1, .int .u64 r.x2, .int .u64 r.x3, .int .u64 r.x4] ∧ w'.cell? ⟨w.heap.size, 0, none⟩ = some (.int .u64 r.x0) ∧ w'.cell? ⟨w.heap.size, 1, none⟩ = some (.int .u64 r.x1) ∧ w'.cell? ⟨w.heap.size, 2, none⟩ = some (.int .u64 r.x2) ∧ w'.cell? ⟨w.heap.size, 3, none⟩ = some (.int .u64 r.x3) ∧ w'.cell? ⟨w.heap.size, 4, none⟩ = some (.int .u64 r.x4))
    (first | (with_reducible exact hS2) | (with_reducible exact bytS_keep (by assumption) hneC (by assumption)))
    (first | (go_simp; go_at_call 54; refine (putWord_any C 16 16 16 57 _ _ _ (by decide) (by simp only [putN_length]; decide) hd2.drew).mono ?_; rintro e v3 ⟨rfl, ge3, hd3⟩))
  rw [K2.out, HW.out.2.2.1] at hd3
  have hA5 := (hA4.drew).grown ge3 (some_ne hneC)
  have hR5 := (hR4.drew).grown ge3 (some_ne hneR)
  have hg6 := gb_then (gb_drew hg5) ge3 (by omega)
  have hS3 : BytS w r v3.drew := bytS_mk hA5.drew
  clear ge3 hS2 hA4 hR4 hg5 hd2
  go_wp2
  go_region_held3 (fun w' => Blk w' w.heap.size 27 [.int .u64 r.x0, .int .u64 r.x1, .int .u64 r.x2, .int .u64 r.x3, .int .u64 r.x4] ∧ w'.cell? ⟨w.heap.size, 0, none⟩ = some (.int .u64 r.x0) ∧ w'.cell? ⟨w.heap.size, 1, none⟩ = some (.int .u64 r.x1) ∧ w'.cell? ⟨w.heap.size, 2, none⟩ = some (.int .u64 r.x2) ∧ w'.cell? ⟨w.heap.size, 3, none⟩ = some (.int .u64 r.x3) ∧ w'.cell? ⟨w.heap.size, 4, none⟩ = some (.int .u64 r.x4))
    (first | (with_reducible exact hS3) | (with_reducible exact bytS_keep (by assumption) hneC (by assumption)))
    (first | (go_simp; go_at_call 54; refine (putWord_any C 24 8 8 57 _ _ _ (by decide) (by simp only [putN_length]; decide) hd3.drew).mono ?_; rintro e v4 ⟨rfl, ge4, hd4⟩))
  rw [K3.out, HW.out.2.2.2, bytes_laid] at hd4
  have hR6 := (hR5.drew).grown ge4 (some_ne hneR)
  have hg7 := gb_then (gb_drew hg6) ge4 (by omega)
  clear ge4 hS3 hA5 hR5 hg6 hd3 K0 K1 K2 K3
  obtain ⟨X, hX⟩ : ∃ X, X = bytesV (Fe.m a) := ⟨_, rfl⟩
  rw [← hX] at hd4
  have hXl : X.length = 32 := by rw [hX]; rfl
  have hX1 : X.toArray.all (·.oneCell') = true := by rw [hX]; exact bytesV_one _
  have HX := Lib.hid (And.intro hX (And.intro hXl hX1)); clear hX hXl hX1
  have HM := Lib.hid (And.intro hd4 hR6); clear hd4 hR6
  go_wp2_with (first
    | (refine wpList_load_row rfl 57 (.tmp 3) rfl C rfl 57 X.toArray (0, 0) _ HM.out.1 Tryz.underlying57 rfl (by rw [List.size_toArray, HX.out.2.1]; exact info_b32) ?_)
    | (refine wpList_store_row rfl 57 (.tmp 2) (.tmp 41) rfl (w.heap.size + 1) X.toArray rfl rfl 57 zeros32.toArray HM.out.2 (by rw [List.size_toArray, HX.out.2.1]; exact info_b32) (by rw [List.size_toArray, List.size_toArray, HX.out.2.1]; rfl) HX.out.2.2 ?_))
  refine bodyPost_ret (v := .agg X.toArray) ?_ rfl ⟨by rw [HX.out.1], gb_setRow hg7 (by omega) _⟩
  exact results_cell_row Tryz.results32 _ _ (w.heap.size + 1) 57 X.toArray (0, 0) _ rfl (HM.out.2.row X) Tryz.underlying57 rfl (by rw [List.size_toArray, HX.out.2.1]; exact info_b32)
end Go.Proofs.YtcmnecnbcohaeaaGreatDoor
