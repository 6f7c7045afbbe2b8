/- record.dots: the numbers of dots, one behind the other. (The region printed by gen_rcdots.py.) -/
import Derived.Test.YtohcoihdijemfaaRcParts
import Derived.Test.YtohcoihdijemfaaRcMem
import Derived.Outline
namespace Go.Proofs.Ytohcoihdijemfaa
open Go.RowKit Ow Wi Ve
namespace Rc
/-- the rows of dots -/
def dotR (l : List D) : List (List Nat) := l.flatMap fun d => [encN d.1, encN d.2]
theorem dotR_len (l : List D) : (dotR l).length = 2 * l.length := by
  induction l with
  | nil => rfl
  | cons d r ih => simp only [dotR, List.flatMap_cons, List.length_append, List.length_cons, List.length_nil] at ih ⊢; omega
theorem dotR_flat (l : List D) : (dotR l).flatten = dotsL l := by
  induction l with
  | nil => rfl
  | cons d r ih =>
    have h : (dotR (d :: r)).flatten = encN d.1 ++ (encN d.2 ++ (dotR r).flatten) := rfl
    rw [h, ih]; simp [dotsL, dotL]
theorem dotR_next (l : List D) (k : Nat) (h : k < l.length) {x y : Int} (e : l.getD k z0 = (x, y)) : dotR (l.take (k + 1)) = dotR (l.take k) ++ [encN x, encN y] := by
  rw [List.take_succ_eq_append_getElem h]
  have e2 : l[k] = (x, y) := by rw [← e, List.getD_eq_getElem?_getD, List.getElem?_eq_getElem h]; rfl
  rw [e2]
  simp [dotR]
theorem dotR_byte (l : List D) : ∀ r ∈ dotR l, ∀ i, r.getD i 0 < 256 := fun r hr => by
  obtain ⟨d, _, h⟩ := List.mem_flatMap.1 hr
  simp only [List.mem_cons, List.not_mem_nil, or_false] at h
  rcases h with rfl | rfl <;> exact encN_byte _
theorem dotsL_len (l : List D) : (dotsL l).length = 16 * l.length := by
  induction l with
  | nil => rfl
  | cons d r ih => simp only [dotsL, List.flatMap_cons, List.length_append, dotL, encN_length, List.length_cons] at ih ⊢; omega
theorem _root_.Go.Proofs.Ytohcoihdijemfaa.Parts.lt {w : World} {base : Nat} {v : Value} {L : List (List Nat)} (h : Parts w base v L) : ∀ g, v.ownBlock = some g → g < w.heap.size := fun g e => by
  obtain ⟨xs, ho, _⟩ := h
  exact (ho.lt g e).2
theorem _root_.Go.Proofs.Ytohcoihdijemfaa.Parts.gb {w w1 w2 w3 : World} {v : Value} {L : List (List Nat)} (h : Parts w1 w.heap.size v L) (hg : w.grownBy w1 none) (hg2 : w1.grownBy w2 none) (hg3 : w2.grownBy w3 v.ownBlock) : w.grownBy w3 none := by
  obtain ⟨xs, ho, _⟩ := h
  exact own_gb (gb_trans hg hg2) (ho.stay hg2) hg3
theorem number_row (n : Int) (n0 : Nat) (w : World) (h : n0 ≤ w.heap.size) : Calls Try.prog 54 #[.int .i64 n] w (fun e w' => ∃ v, e = .returned v ∧ w.grownBy w' none ∧ ∃ N, v = .slice (some ⟨N, 0, none⟩) 8 8 ∧ n0 ≤ N ∧ Blk w' N 5 ((encN n).map u8N)) :=
  (numF_any n w).mono fun _ _ ⟨g, he, hg, hn, hb⟩ => ⟨_, he, hg, g, rfl, Nat.le_trans h hn, hb⟩
/-- a slice of the dots l -/
def _root_.Go.Proofs.Ytohcoihdijemfaa.Fg.It.dts (l : List D) : Fg.It := ⟨fun v w => ∃ a cap B, v = .slice a l.length cap ∧ DotsAt w B a l, fun _ _ _ ⟨a, cap, B, e, h⟩ hg => ⟨a, cap, B, e, h.stay hg⟩⟩
set_option maxHeartbeats 1000000 in
set_option maxRecDepth 100000 in
theorem dots_out (n cap B : Nat) (l : List D) (a : Option Addr) (w : World) (hn : l.length = n) (h : DotsAt w B a l) (hm : n ≤ 8) :
    Calls Try.prog 53 #[.slice a n cap] w (BOut w (dotsL l)) := by
  have H := Lib.hid h; clear h
  have HL := Lib.hid hn; clear hn
  obtain ⟨Q, hQ⟩ : ∃ Q, Q = BOut w (dotsL l) := ⟨_, rfl⟩
  rw [← hQ]
  have HQ := Lib.hid hQ; clear hQ
  go_enter Try.func53, Try.ntmps53
  go_wp2
  go_loopw [3, 8] (fun v i wr => ∃ (k : Nat) (vr : Value), k ≤ n ∧ i = .int .i64 k ∧ vr = v ∧ Hid (w.grownBy wr none ∧ Parts wr w.heap.size vr (dotR (l.take k)))) (fun _ i _ => n - (intOf i).toNat)
  case atStart => exact ⟨0, _, by omega, rfl, rfl, gb_refl _ _, Parts.nil _ _⟩
  case round =>
    obtain ⟨k, vr, hk, rfl, rfl, HI⟩ := hrel
    by_cases hlt : k < n
    · have i0 : (k : Int) < (n : Int) := by omega
      obtain ⟨pb, po, rfl, hpb, hcs⟩ := (H.out.stay HI.out.1).cells.resolve_left (by rw [HL.out]; omega)
      obtain ⟨k1, k2⟩ := hcs k (by rw [HL.out]; exact hlt)
      obtain ⟨x, y, hxy⟩ : ∃ x y, l.getD k z0 = (x, y) := ⟨_, _, rfl⟩
      have HD := Lib.hid (And.intro (dotR_next l k (by rw [HL.out]; exact hlt) hxy) (And.intro hlt (And.intro hk (show k < 8 by omega))))
      rw [hxy] at k1 k2
      simp only at k1 k2
      clear hcs hxy
      obtain ⟨W1, hW1⟩ : ∃ W1, W1 = wr.alloc (.cells #[iV x, iV y] 43) := ⟨_, rfl⟩
      obtain ⟨N, hN⟩ : ∃ N, N = wr.heap.size := ⟨_, rfl⟩
      have HN : Hid (Blk W1 N 43 [iV x, iV y]) := by show Blk _ _ _ _; rw [hW1, hN]; exact Blk.new wr _ _
      have HN1 : Hid (wr.grownBy W1 none) := by show wr.grownBy _ none; rw [hW1]; exact gb_alloc (gb_refl _ _) _
      go_wp2_with fail
      rw [← hW1, ← hN]
      clear hW1 hN k1 k2
      refine Fg.region_t [] [.any, .any, .any, .any, .any, .any, .any, .any, .any, .any, .any, .any, .val (vr), .val (Value.pointer (some ⟨N, 0, none⟩)), .val (Value.int .i64 x), .row 5 ((encN x).map u8N) 8 W1.heap.size, .val (Value.pointer (some ⟨N, 1, none⟩)), .val (Value.int .i64 y), .row 5 ((encN y).map u8N) 8 W1.heap.size, .two W1.heap.size (encN x) (encN y)] W1 8 (gb_refl _ _) (by kernel_rfl) (by kernel_rfl) (by kernel_rfl) (by kernel_rfl) (by decide) (by kernel_rfl) ?_ ?_
      · refine ⟨Fg.vT rfl (by decide) fun ac w h => ?_, ?_⟩
        · have e3 : ac.tmps.getD 3 undef = vr := h.rest 3 (by kernel_rfl)
          exact ⟨_, w, wants_none rfl, Fg.run_move rfl e3, gb_refl _ _, rfl⟩
        refine ⟨Fg.vT rfl (by decide) fun ac w h => ?_, ?_⟩
        · have e5 : ac.tmps.getD 5 undef = Value.pointer (some ⟨N, 0, none⟩) := h.rest 5 (by kernel_rfl)
          refine ⟨Value.pointer (some ⟨N, 0, none⟩), w, wants_none rfl, ?_, gb_refl _ _, rfl⟩
          clear h
          simp only [execOp, Act.eval, e5]
          go_simp
        refine ⟨Fg.vT rfl (by decide) fun ac w h => ?_, ?_⟩
        · have e13 : ac.tmps.getD 13 undef = Value.pointer (some ⟨N, 0, none⟩) := h.dep 13 (by kernel_rfl)
          have c := ((HN.out.grown h.base (by simp)).cell (i := 0) rfl)
          refine ⟨Value.int .i64 x, w, wants_none rfl, ?_, gb_refl _ _, rfl⟩
          clear h
          simp only [execOp, Act.eval, e13]
          go_simp
        refine ⟨Fg.cT rfl (by decide) fun ac w h => ?_, ?_⟩
        · have e14 : ac.tmps.getD 14 undef = Value.int .i64 x := h.dep 14 (by kernel_rfl)
          refine ⟨54, #[Value.int .i64 x], wants_none rfl, Fg.run_call rfl rfl (by simp only [List.map_toArray, List.map_cons, List.map_nil, Act.eval, e14]) (Fg.run_enter Try.func54 (by kernel_rfl) (by kernel_rfl)), ?_⟩
          exact (number_row x W1.heap.size w h.base.size).mono fun _ _ ⟨v, he, hg, hb⟩ => ⟨v, he, hg, hb⟩
        refine ⟨Fg.vT rfl (by decide) fun ac w h => ?_, ?_⟩
        · have e5 : ac.tmps.getD 5 undef = Value.pointer (some ⟨N, 0, none⟩) := h.rest 5 (by kernel_rfl)
          refine ⟨Value.pointer (some ⟨N, 1, none⟩), w, wants_none rfl, ?_, gb_refl _ _, rfl⟩
          clear h
          simp only [execOp, Act.eval, e5]
          go_simp
        refine ⟨Fg.vT rfl (by decide) fun ac w h => ?_, ?_⟩
        · have e16 : ac.tmps.getD 16 undef = Value.pointer (some ⟨N, 1, none⟩) := h.dep 16 (by kernel_rfl)
          have c := ((HN.out.grown h.base (by simp)).cell (i := 1) rfl)
          refine ⟨Value.int .i64 y, w, wants_none rfl, ?_, gb_refl _ _, rfl⟩
          clear h
          simp only [execOp, Act.eval, e16]
          go_simp
        refine ⟨Fg.cT rfl (by decide) fun ac w h => ?_, ?_⟩
        · have e17 : ac.tmps.getD 17 undef = Value.int .i64 y := h.dep 17 (by kernel_rfl)
          refine ⟨54, #[Value.int .i64 y], wants_none rfl, Fg.run_call rfl rfl (by simp only [List.map_toArray, List.map_cons, List.map_nil, Act.eval, e17]) (Fg.run_enter Try.func54 (by kernel_rfl) (by kernel_rfl)), ?_⟩
          exact (number_row y W1.heap.size w h.base.size).mono fun _ _ ⟨v, he, hg, hb⟩ => ⟨v, he, hg, hb⟩
        refine ⟨Fg.vT rfl (by decide) fun ac w h => ?_, ?_⟩
        · obtain ⟨g15, e15, n15, b15⟩ : ∃ N, ac.tmps.getD 15 undef = .slice (some ⟨N, 0, none⟩) 8 8 ∧ W1.heap.size ≤ N ∧ Blk w N 5 ((encN x).map u8N) := h.dep 15 (by kernel_rfl)
          obtain ⟨g18, e18, n18, b18⟩ : ∃ N, ac.tmps.getD 18 undef = .slice (some ⟨N, 0, none⟩) 8 8 ∧ W1.heap.size ≤ N ∧ Blk w N 5 ((encN y).map u8N) := h.dep 18 (by kernel_rfl)
          refine ⟨.slice (some ⟨w.heap.size, 0, none⟩) 2 2, w.alloc (.cells #[.slice (some ⟨g15, 0, none⟩) 8 8, .slice (some ⟨g18, 0, none⟩) 8 8] 22), wants_none rfl, ?_, gb_alloc (gb_refl _ _) _, ⟨w.heap.size, g15, g18, rfl, ⟨h.base.size, n15, n18⟩, Blk.new w [.slice (some ⟨g15, 0, none⟩) 8 8, .slice (some ⟨g18, 0, none⟩) 8 8] _, b15.alloc _, b18.alloc _⟩⟩
          clear h
          simp only [execOp, Act.eval, e15, e18, List.map_toArray, List.map_cons, List.map_nil]
          go_simp
        trivial
      · intro aq wq hB hsz hdf hrest hslots hpt
        have e12 : aq.tmps.getD 12 undef = vr := hslots 12 (by kernel_rfl)
        obtain ⟨u13, e13⟩ : ∃ u, aq.tmps.getD 13 undef = u := ⟨_, rfl⟩
        obtain ⟨u14, e14⟩ : ∃ u, aq.tmps.getD 14 undef = u := ⟨_, rfl⟩
        obtain ⟨u15, e15⟩ : ∃ u, aq.tmps.getD 15 undef = u := ⟨_, rfl⟩
        obtain ⟨u16, e16⟩ : ∃ u, aq.tmps.getD 16 undef = u := ⟨_, rfl⟩
        obtain ⟨u17, e17⟩ : ∃ u, aq.tmps.getD 17 undef = u := ⟨_, rfl⟩
        obtain ⟨u18, e18⟩ : ∃ u, aq.tmps.getD 18 undef = u := ⟨_, rfl⟩
        obtain ⟨b19, p19, q19, e19, n19, h19, hp19, hq19⟩ : ∃ b g1 g2, aq.tmps.getD 19 undef = .slice (some ⟨b, 0, none⟩) 2 2 ∧ (W1.heap.size ≤ b ∧ W1.heap.size ≤ g1 ∧ W1.heap.size ≤ g2) ∧ Blk wq b 22 [.slice (some ⟨g1, 0, none⟩) 8 8, .slice (some ⟨g2, 0, none⟩) 8 8] ∧ Blk wq g1 5 ((encN x).map u8N) ∧ Blk wq g2 5 ((encN y).map u8N) := hslots 19 (by kernel_rfl)
        obtain rfl := Fg.frame_is (a := aq) (vs := [Value.slice (some ⟨pb, po, none⟩) n cap, undef, Value.slice none 0 0, vr, undef, Value.pointer (some ⟨N, 0, none⟩), Value.slice (some ⟨pb, po, none⟩) n cap, Value.int .i64 (n : Int), Value.int .i64 (k : Int), Value.bool true, Value.pointer (some ⟨pb, po + k * 2, none⟩), Value.agg #[iV x, iV y], vr, u13, u14, u15, u16, u17, u18, Value.slice (some ⟨b19, 0, none⟩) 2 2, u20, u21, undef, undef]) hsz ⟨hrest 0 (by kernel_rfl), hrest 1 (by kernel_rfl), hrest 2 (by kernel_rfl), hrest 3 (by kernel_rfl), hrest 4 (by kernel_rfl), hrest 5 (by kernel_rfl), hrest 6 (by kernel_rfl), hrest 7 (by kernel_rfl), hrest 8 (by kernel_rfl), hrest 9 (by kernel_rfl), hrest 10 (by kernel_rfl), hrest 11 (by kernel_rfl), e12, e13, e14, e15, e16, e17, e18, e19, hrest 20 (by kernel_rfl), hrest 21 (by kernel_rfl), hrest 22 (by kernel_rfl), hrest 23 (by kernel_rfl), trivial⟩ hdf
        clear hsz hdf hrest hslots hpt e12 e13 e14 e15 e16 e17 e18 e19
        have HP := Lib.hid (HI.out.2.stay (gb_trans HN1.out hB))
        have hlt := HI.out.2.lt
        have hbb := hB.size
        have hww := HN1.out.size
        obtain ⟨v2, w2, hap, hP2, hg2, hnb⟩ := parts_pushs wq w.heap.size b19 _ vr (dotR (l.take k)) [(some ⟨p19, 0, none⟩, 8, encN x), (some ⟨q19, 0, none⟩, 8, encN y)] HP.out (by simpa [rowV, encN_length] using h19) (fun e => by have := hlt _ e; omega) (by simp) (fun p hp => by
          simp only [List.mem_cons, List.not_mem_nil, or_false] at hp
          rcases hp with rfl | rfl
          · exact ⟨numF_bytes hp19, fun pb po e => by cases e; exact ⟨fun e => by have := hlt _ e; omega, hp19.lt⟩⟩
          · exact ⟨numF_bytes hq19, fun pb po e => by cases e; exact ⟨fun e => by have := hlt _ e; omega, hq19.lt⟩⟩) (Nat.le_trans HI.out.1.size (by omega)) (by rw [dotR_len, List.length_take]; have := HD.out.2.2.2; simp; omega)
        have HS := Lib.hid (show w.grownBy w2 none ∧ Parts w2 w.heap.size v2 (dotR (l.take (k + 1))) from ⟨HI.out.2.gb HI.out.1 (gb_trans HN1.out hB) hg2, by rw [HD.out.1]; exact hP2⟩)
        have HA := Lib.hid hap
        clear hP2 hg2 hnb hap hB hlt h19 hp19 hq19 n19 HP hbb hww
        refine wpList_append_run rfl (.tmp 12) (.tmp 19) 28 rfl rfl _ _ rfl rfl _ _ HA.out ?_
        refine Fg.wpl_value (v := v2) (w' := w2) rfl (Fg.run_assign rfl rfl) ?_
        refine wpList_nil ?_
        simp only [Act.put, List.setIfInBounds_toArray, List.set_cons_succ, List.set_cons_zero]
        go_wp2
        go_roundw
        case rel => exact ⟨k + 1, v2, by omega, by go_num, rfl, HS.out⟩
        case measure => simp [intOf]; omega
    · obtain rfl : k = n := by omega
      have e0 : l.take k = l := by rw [← HL.out]; exact List.take_length
      have hP := HI.out.2
      rw [e0] at hP
      obtain ⟨ap, cp, rfl, hR⟩ := hP.rows
      have HJ := Lib.hid (join_out (dotR l).length (dotR l) ap cp _ wr rfl hR (by rw [dotR_len, HL.out]; omega) (by rw [dotR_flat, dotsL_len, HL.out]; omega) (dotR_byte l))
      have HG := Lib.hid HI.out.1
      clear hP hR e0 HI
      rw [dotR_flat] at HJ
      generalize (dotR l).length = m at *
      go_wp2_with fail
      refine HJ.out.mono ?_
      rintro e w2 ⟨a2, c2, rfl, hg, hb⟩
      have HR : Hid (Q (.returned (.slice a2 (dotsL l).length c2)) w2) := by rw [HQ.out]; exact ⟨a2, c2, rfl, gb_trans HG.out hg, hb⟩
      clear hg hb
      go_wp2
      exact HR.out
end Rc
end Go.Proofs.Ytohcoihdijemfaa
