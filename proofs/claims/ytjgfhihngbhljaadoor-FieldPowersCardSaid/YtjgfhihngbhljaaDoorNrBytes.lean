/- The document's field: Right, Bytes; numbers held against each other; bytes held against each other. -/
import Derived.Test.YtjgfhihngbhljaaDoorNrFrom
import Derived.Test.YtjgfhihngbhljaaDoorOwn
import Derived.ChangeKeysEq
namespace Go.Proofs.YtjgfhihngbhljaaDoor
open Go.RowKit Ns Ow
namespace Nr
set_option maxRecDepth 100000 in
set_option maxHeartbeats 2000000 in
theorem right_any (e : List Nat) (w0 : World) (le : e.length = 5) (he : ∀ j, e.getD j 0 < 18446744073709551616) : Calls Tryd.prog 5 #[.agg (pL e).toArray] w0 fun x w' => x = .returned (.bool (e.all fun n => decide (n < 4503599627370496))) ∧ w0.grownBy w' none := by
  have b1 := Blk.new w0 (pL e) 23
  have g1 := gb_alloc (gb_refl w0 none) (.cells (pL e).toArray 23)
  go_enter Tryd.func5, Tryd.ntmps5
  go_upto_region 1 with (fail)
  revert g1; revert b1
  generalize w0.alloc (.cells (pL e).toArray 23) = w1
  intro b1 g1
  have H1 := Lib.hid (And.intro g1 b1); clear g1 b1
  have HE := Lib.hid (And.intro le he); clear le he
  go_wp2
  go_loop [3] (fun i => ∃ k : Nat, k ≤ 5 ∧ i = .int .i64 k ∧ (e.take k).all (fun n => decide (n < 4503599627370496)) = true) (fun i => 5 - (intOf i).toNat)
  case atStart => exact ⟨0, by omega, rfl, rfl⟩
  case round =>
    obtain ⟨k, hk, rfl, hall⟩ := hrel
    by_cases hlt : k < 5
    · have i0 : (k : Int) < 5 := by omega
      have hke : k < e.length := by have := HE.out.1; omega
      have c0 := H1.out.2.cell (pL_get e k hke)
      have v0 := HE.out.2 k
      have hn : (e.take (k + 1)).all (fun n => decide (n < 4503599627370496)) = decide (e.getD k 0 < 4503599627370496) := by
        rw [List.take_succ_eq_append_getElem hke, List.all_append, hall, List.getD_eq_getElem?_getD, List.getElem?_eq_getElem hke]
        simp
      have hf : e.getD k 0 < 4503599627370496 ∨ e.all (fun n => decide (n < 4503599627370496)) = false := by
        rcases Nat.lt_or_ge (e.getD k 0) 4503599627370496 with h | h
        · exact Or.inl h
        · right
          rw [Bool.eq_false_iff]
          intro hh
          have := (List.all_eq_true.1 hh) e[k] (List.getElem_mem hke)
          rw [List.getD_eq_getElem?_getD, List.getElem?_eq_getElem hke] at h
          simp at this h
          omega
      generalize e.getD k 0 = x at *
      have HN := Lib.hid (And.intro hn hf); clear hn hf hall hke
      by_cases hsm : x < 4503599627370496
      · have hq : (x : Int) / 4503599627370496 = 0 := by omega
        go_wp2
        go_round
        case rel => exact ⟨k + 1, by omega, by go_num, by rw [HN.out.1]; exact decide_eq_true hsm⟩
        case measure => simp [intOf]; omega
      · have hq : (x : Int) / 4503599627370496 ≠ 0 := by omega
        have HF := Lib.hid (HN.out.2.resolve_left hsm)
        go_wp2
        go_ret
        exact ⟨by rw [HF.out]; rfl, H1.out.1⟩
    · obtain rfl : k = 5 := by omega
      have HF : Hid (e.all (fun n => decide (n < 4503599627370496)) = true) := Lib.hid (by rw [← hall, List.take_of_length_le (Nat.le_of_eq HE.out.1)])
      clear hall
      go_wp2
      go_ret
      exact ⟨by rw [HF.out]; rfl, H1.out.1⟩
/-- a number's bytes -/
def byL : List Nat → List Nat
  | [] => []
  | d :: r => d % 256 :: d / 256 % 256 :: byL r
theorem byL_append (a b : List Nat) : byL (a ++ b) = byL a ++ byL b := by
  induction a with
  | nil => rfl
  | cons d r ih => simp [byL, ih]
theorem byL_len (a : List Nat) : (byL a).length = 2 * a.length := by
  induction a with
  | nil => rfl
  | cons d r ih => simp [byL, ih]; omega
theorem byL_next (a : List Nat) (k : Nat) (h : k < a.length) : byL (a.take (k + 1)) = byL (a.take k) ++ [a.getD k 0 % 256, a.getD k 0 / 256 % 256] := by
  rw [List.take_succ_eq_append_getElem h, byL_append, List.getD_eq_getElem?_getD, List.getElem?_eq_getElem h]
  rfl
def two (L : List Value) : Fg.It := ⟨fun v w => ∃ N, v = .slice (some ⟨N, 0, none⟩) 2 2 ∧ Blk w N 5 L, fun _ _ _ ⟨N, e, h⟩ hg => ⟨N, e, h.grown hg (by simp)⟩⟩
set_option maxRecDepth 100000 in
set_option maxHeartbeats 2000000 in
theorem bytes_any (a : List Nat) (w0 : World) (ha : Whole a) (la : a.length = 16) : Calls Tryd.prog 37 #[nV a] w0 fun x w' => ∃ g c, x = .returned (.slice (some ⟨g, 0, none⟩) 32 c) ∧ w0.grownBy w' none ∧ w'.ownsRow w0.heap.size 5 1 (.slice (some ⟨g, 0, none⟩) 32 c) 32 ((byL a).map u8N) := by
  have b1 := new (w := w0) rfl a
  have g1 := gb_alloc (gb_refl w0 none) (.cells (pL a).toArray 33)
  unfold nV
  go_enter Tryd.func37, Tryd.ntmps37
  go_upto_region 1 with (fail)
  revert g1; revert b1
  generalize w0.alloc (.cells (pL a).toArray 33) = w1
  intro b1 g1
  have H1 := Lib.hid (And.intro g1 b1); clear g1
  have z1 := b1.lt
  clear b1
  have HA := Lib.hid (And.intro ha la); clear ha la
  go_wp2
  go_loopw [3, 4] (fun v i wr => ∃ k : Nat, k ≤ 16 ∧ i = .int .i64 k ∧ w0.grownBy wr none ∧ Blk wr w0.heap.size 33 (pL a) ∧ wr.ownsRow (w0.heap.size + 1) 5 1 v (2 * k) ((byL (a.take k)).map u8N)) (fun _ i _ => 16 - (intOf i).toNat)
  case atStart => exact ⟨0, by omega, rfl, H1.out.1, H1.out.2, World.ownsRow_nil _ _ _ _⟩
  case round =>
    obtain ⟨k, hk, rfl, hg, hb, ho⟩ := hrel
    by_cases hlt : k < 16
    · have i0 : (k : Int) < 16 := by omega
      have hka : k < a.length := by have := HA.out.2; omega
      have c0 := cell hb k hka
      have v0 := of_whole HA.out.1 k
      have hn := byL_next a k hka
      generalize a.getD k 0 = x at *
      obtain ⟨ra, rc, hv⟩ : ∃ ra rc, u3 = .slice ra (2 * k) rc := by
        rcases ho.2 with ⟨h, h0⟩ | ⟨g, c, _, h, _⟩
        · exact ⟨none, 0, by rw [h, show 2 * k = 0 from h0]⟩
        · exact ⟨_, c, h⟩
      subst hv
      have HI := Lib.hid (And.intro hg (And.intro hb (And.intro ho (And.intro hn c0)))); clear hg hb ho hn c0 hka
      have HX := Lib.hid v0
      go_upto_region 5 with (fail)
      refine Fg.region_t [] [.any, .any, .any, .any, .any, .any, .any, .any, .any, .val (Value.slice ra (2 * k) rc), .val (Value.int .i64 (k : Int)), .val (Value.pointer (some ⟨w0.heap.size, k, none⟩)), .val (Value.int .u64 (x : Int)), .val (Value.int .u8 ((x : Int) % 256)), .val (Value.int .i64 (k : Int)), .val (Value.pointer (some ⟨w0.heap.size, k, none⟩)), .val (Value.int .u64 (x : Int)), .val (Value.int .u64 ((x : Int) / 256)), .val (Value.int .u8 ((x : Int) / 256 % 256)), two [.int .u8 ((x : Int) % 256), .int .u8 ((x : Int) / 256 % 256)]] wr 11 (gb_refl _ _) (by kernel_rfl) (by kernel_rfl) (by kernel_rfl) (by kernel_rfl) (by decide) (by kernel_rfl) ?_ ?_
      · refine ⟨Fg.vT rfl (by decide) fun ac w h => ?_, ?_⟩
        · have e3 : ac.tmps.getD 3 undef = Value.slice ra (2 * k) rc := h.rest 3 (by kernel_rfl)
          exact ⟨_, w, wants_none rfl, Fg.run_move rfl e3, gb_refl _ _, rfl⟩
        refine ⟨Fg.vT rfl (by decide) fun ac w h => ?_, ?_⟩
        · have e4 : ac.tmps.getD 4 undef = Value.int .i64 (k : Int) := h.rest 4 (by kernel_rfl)
          exact ⟨_, w, wants_none rfl, Fg.run_move rfl e4, gb_refl _ _, rfl⟩
        refine ⟨Fg.vT rfl (by decide) fun ac w h => ?_, ?_⟩
        · have e1 : ac.tmps.getD 1 undef = Value.pointer (some ⟨w0.heap.size, 0, none⟩) := h.rest 1 (by kernel_rfl)
          have e10 : ac.tmps.getD 10 undef = Value.int .i64 (k : Int) := h.dep 10 (by kernel_rfl)
          have i1 : (k : Int) < 16 := i0
          refine ⟨.pointer (some ⟨w0.heap.size, k, none⟩), w, wants_none rfl, ?_, gb_refl _ _, rfl⟩
          clear h
          simp only [execOp, Act.eval, e1, e10]
          go_simp
        refine ⟨Fg.vT rfl (by decide) fun ac w h => ?_, ?_⟩
        · have e11 : ac.tmps.getD 11 undef = Value.pointer (some ⟨w0.heap.size, k, none⟩) := h.dep 11 (by kernel_rfl)
          have y0 : w.cell? ⟨w0.heap.size, k, none⟩ = some (.int .u64 (x : Int)) := by rw [gb_cell h.base (block_lt_of_cell (HI.out.2.2.2.2)) (by simp)]; exact HI.out.2.2.2.2
          refine ⟨Value.int .u64 (x : Int), w, wants_none rfl, ?_, gb_refl _ _, rfl⟩
          clear h
          simp only [execOp, Act.eval, e11]
          go_simp
        refine ⟨Fg.vT rfl (by decide) fun ac w h => ?_, ?_⟩
        · have e12 : ac.tmps.getD 12 undef = Value.int .u64 (x : Int) := h.dep 12 (by kernel_rfl)
          refine ⟨.int .u8 ((x : Int) % 256), w, wants_none rfl, ?_, gb_refl _ _, rfl⟩
          clear h
          simp only [execOp, Act.eval, e12]
          go_simp
          exact IntKind.wrap_u8 _
        refine ⟨Fg.vT rfl (by decide) fun ac w h => ?_, ?_⟩
        · have e4 : ac.tmps.getD 4 undef = Value.int .i64 (k : Int) := h.rest 4 (by kernel_rfl)
          exact ⟨_, w, wants_none rfl, Fg.run_move rfl e4, gb_refl _ _, rfl⟩
        refine ⟨Fg.vT rfl (by decide) fun ac w h => ?_, ?_⟩
        · have e1 : ac.tmps.getD 1 undef = Value.pointer (some ⟨w0.heap.size, 0, none⟩) := h.rest 1 (by kernel_rfl)
          have e14 : ac.tmps.getD 14 undef = Value.int .i64 (k : Int) := h.dep 14 (by kernel_rfl)
          have i1 : (k : Int) < 16 := i0
          refine ⟨.pointer (some ⟨w0.heap.size, k, none⟩), w, wants_none rfl, ?_, gb_refl _ _, rfl⟩
          clear h
          simp only [execOp, Act.eval, e1, e14]
          go_simp
        refine ⟨Fg.vT rfl (by decide) fun ac w h => ?_, ?_⟩
        · have e15 : ac.tmps.getD 15 undef = Value.pointer (some ⟨w0.heap.size, k, none⟩) := h.dep 15 (by kernel_rfl)
          have y0 : w.cell? ⟨w0.heap.size, k, none⟩ = some (.int .u64 (x : Int)) := by rw [gb_cell h.base (block_lt_of_cell (HI.out.2.2.2.2)) (by simp)]; exact HI.out.2.2.2.2
          refine ⟨Value.int .u64 (x : Int), w, wants_none rfl, ?_, gb_refl _ _, rfl⟩
          clear h
          simp only [execOp, Act.eval, e15]
          go_simp
        refine ⟨Fg.vT rfl (by decide) fun ac w h => ?_, ?_⟩
        · have e16 : ac.tmps.getD 16 undef = Value.int .u64 (x : Int) := h.dep 16 (by kernel_rfl)
          refine ⟨.int .u64 ((x : Int) / 256), w, wants_none rfl, ?_, gb_refl _ _, rfl⟩
          clear h
          simp only [execOp, Act.eval, e16]
          go_simp
        refine ⟨Fg.vT rfl (by decide) fun ac w h => ?_, ?_⟩
        · have e17 : ac.tmps.getD 17 undef = Value.int .u64 ((x : Int) / 256) := h.dep 17 (by kernel_rfl)
          refine ⟨.int .u8 ((x : Int) / 256 % 256), w, wants_none rfl, ?_, gb_refl _ _, rfl⟩
          clear h
          simp only [execOp, Act.eval, e17]
          go_simp
          exact IntKind.wrap_u8 _
        refine ⟨Fg.vT rfl (by decide) fun ac w h => ?_, ?_⟩
        · have e13 : ac.tmps.getD 13 undef = Value.int .u8 ((x : Int) % 256) := h.dep 13 (by kernel_rfl)
          have e18 : ac.tmps.getD 18 undef = Value.int .u8 ((x : Int) / 256 % 256) := h.dep 18 (by kernel_rfl)
          refine ⟨.slice (some ⟨w.heap.size, 0, none⟩) 2 2, (w.alloc (.cells #[.int .u8 ((x : Int) % 256), .int .u8 ((x : Int) / 256 % 256)] 5)), wants_none rfl, ?_, gb_alloc (gb_refl _ _) _, ⟨w.heap.size, rfl, Blk.new w [.int .u8 ((x : Int) % 256), .int .u8 ((x : Int) / 256 % 256)] _⟩⟩
          clear h
          simp only [execOp, Act.eval, e13, e18, List.map_toArray, List.map_cons, List.map_nil]
          go_simp
        trivial
      · intro aq wq hB hsz hdf hrest hslots hpt
        have e9 : aq.tmps.getD 9 undef = Value.slice ra (2 * k) rc := hslots 9 (by kernel_rfl)
        obtain ⟨u10, e10⟩ : ∃ u, aq.tmps.getD 10 undef = u := ⟨_, rfl⟩
        obtain ⟨u11, e11⟩ : ∃ u, aq.tmps.getD 11 undef = u := ⟨_, rfl⟩
        obtain ⟨u12, e12⟩ : ∃ u, aq.tmps.getD 12 undef = u := ⟨_, rfl⟩
        obtain ⟨u13, e13⟩ : ∃ u, aq.tmps.getD 13 undef = u := ⟨_, rfl⟩
        obtain ⟨u14, e14⟩ : ∃ u, aq.tmps.getD 14 undef = u := ⟨_, rfl⟩
        obtain ⟨u15, e15⟩ : ∃ u, aq.tmps.getD 15 undef = u := ⟨_, rfl⟩
        obtain ⟨u16, e16⟩ : ∃ u, aq.tmps.getD 16 undef = u := ⟨_, rfl⟩
        obtain ⟨u17, e17⟩ : ∃ u, aq.tmps.getD 17 undef = u := ⟨_, rfl⟩
        obtain ⟨u18, e18⟩ : ∃ u, aq.tmps.getD 18 undef = u := ⟨_, rfl⟩
        obtain ⟨N19, e19, b19⟩ : ∃ N, aq.tmps.getD 19 undef = .slice (some ⟨N, 0, none⟩) 2 2 ∧ Blk wq N 5 [.int .u8 ((x : Int) % 256), .int .u8 ((x : Int) / 256 % 256)] := hslots 19 (by kernel_rfl)
        obtain rfl := Fg.frame_is (a := aq) (vs := [Value.agg (pL a).toArray, Value.pointer (some ⟨w0.heap.size, 0, none⟩), Value.slice none 0 0, Value.slice ra (2 * k) rc, Value.int .i64 (k : Int), Value.int .i64 (k : Int), Value.bool true, u7, u8, Value.slice ra (2 * k) rc, u10, u11, u12, u13, u14, u15, u16, u17, u18, Value.slice (some ⟨N19, 0, none⟩) 2 2, u20, undef]) hsz ⟨hrest 0 (by kernel_rfl), hrest 1 (by kernel_rfl), hrest 2 (by kernel_rfl), hrest 3 (by kernel_rfl), hrest 4 (by kernel_rfl), hrest 5 (by kernel_rfl), hrest 6 (by kernel_rfl), hrest 7 (by kernel_rfl), hrest 8 (by kernel_rfl), e9, e10, e11, e12, e13, e14, e15, e16, e17, e18, e19, hrest 20 (by kernel_rfl), hrest 21 (by kernel_rfl), trivial⟩ hdf
        clear hsz hdf hrest hslots hpt e9 e10 e11 e12 e13 e14 e15 e16 e17 e18 e19
        have ho9 := HI.out.2.2.1.kept hB (by cases (Value.slice ra (2 * k) rc).ownBlock <;> simp)
        have zq : w0.heap.size + 1 ≤ wq.heap.size := Nat.le_trans (Nat.le_trans (by have := z1; have := HI.out.2.1.lt; have := HI.out.1.size; omega) hB.size) (Nat.le_refl _)
        obtain ⟨v', w5, hap, ho5, hg5⟩ := append_u8 wq (w0.heap.size + 1) (2 * k) 2 2 _ _ [.int .u8 ((x : Int) % 256), .int .u8 ((x : Int) / 256 % 256)] ⟨N19, 0, none⟩ ho9 rfl (fun j u hu => by rw [Addr.add_lit, Nat.zero_add]; exact b19.cell hu) (fun u hu => by simp at hu; rcases hu with rfl | rfl <;> rfl) (by omega) zq
        refine wpList_append_run rfl (.tmp 9) (.tmp 19) 26 rfl rfl _ _ rfl rfl _ _ hap ?_
        refine Fg.wpl_value (v := v') (w' := w5) rfl (Fg.run_assign rfl rfl) ?_
        refine wpList_nil ?_
        simp only [Act.put, List.setIfInBounds_toArray, List.set_cons_succ, List.set_cons_zero]
        have hg9 := gb_own (gb_trans HI.out.1 hB) ho9 (Nat.le_succ _) hg5
        have hb9 := (HI.out.2.1.grown hB (by simp)).grown hg5 (fun e => by have := (ho9.lt _ e.symm).1; omega)
        have e9 : ((byL (a.take k)).map u8N ++ [.int .u8 ((x : Int) % 256), .int .u8 ((x : Int) / 256 % 256)]) = (byL (a.take (k + 1))).map u8N := by rw [HI.out.2.2.2.1, List.map_append]; rfl
        rw [e9] at ho5
        have HF := Lib.hid (And.intro hg9 (And.intro hb9 ho5)); clear hg9 hb9 ho5 ho9 hap hg5 b19 hB
        go_wp2
        exact ⟨⟨k + 1, by omega, by congr 1, HF.out.1, HF.out.2.1, by rw [show 2 * (k + 1) = 2 * k + 2 by omega]; exact HF.out.2.2⟩, by simp [intOf]; omega⟩
    · obtain rfl : k = 16 := by omega
      rw [List.take_of_length_le (Nat.le_of_eq HA.out.2)] at ho
      obtain ⟨g', c', rfl, _, _, _, _⟩ := own_some ho (by omega)
      have H5 := Lib.hid (And.intro (own_base ho (Nat.le_succ _)) hg); clear ho hg hb
      go_wp2
      go_ret
      exact ⟨g', c', rfl, H5.out.2, H5.out.1⟩
end Nr
end Go.Proofs.YtjgfhihngbhljaaDoor
