/- record.Over: who is over whom. (Printed by gen_rcover.py.) -/
import Derived.Test.YtohcoihdijemfaaRcCalls
namespace Go.Proofs.Ytohcoihdijemfaa
open Go.RowKit Ow Wi Ve
namespace Rc
set_option maxHeartbeats 4000000 in
set_option maxRecDepth 100000 in
theorem rover_any (ra rb : R) (B1 B2 : Nat) (w : World) (qa qb : L) (ha : RAt w B1 qa ra) (hb : RAt w B2 qb rb) : Calls Try.prog 16 #[qa.v ra, qb.v rb] w fun e w' => e = .returned (.bool (overB ra rb)) ∧ w.grownBy w' none := by
  have HX := Lib.hid (fun w' (hg : w.grownBy w' none) => shaped_any (shapeB ra) ra B1 w' qa (ha.stay hg) rfl)
  have HY := Lib.hid (fun w' (hg : w.grownBy w' none) => shaped_any (shapeB rb) rb B2 w' qb (hb.stay hg) rfl)
  have HH := Lib.hid (fun w' (hg : w.grownBy w' none) => has_any B1 qa.n1 qa.c1 qa.a1 ra.cx rb.cl rb.sq w' ha.l1 (ha.dots.stay hg) ha.top)
  have hz := str_eq qa.s qb.s
  rw [ha.str, hb.str] at hz
  obtain ⟨o, ho⟩ : ∃ o, o = overB ra rb := ⟨_, rfl⟩
  rw [← ho]
  have ho' : o = (shapeB ra && shapeB rb && decide (ra.key = rb.key) && hasB ra.cx (rb.cl, rb.sq)) := ho
  rw [← hz] at ho'
  clear ha hb hz ho
  generalize hasB ra.cx (rb.cl, rb.sq) = t at *
  generalize shapeB ra = x at *
  generalize shapeB rb = y at *
  obtain ⟨s, a1, n1, c1, a2, n2, c2, a3, n3, c3⟩ := qa
  obtain ⟨key, cl, sq, cx, g, val, sig⟩ := ra
  obtain ⟨s', a1', n1', c1', a2', n2', c2', a3', n3', c3'⟩ := qb
  obtain ⟨key', cl', sq', cx', g', val', sig'⟩ := rb
  replace HX : Hid (∀ w' (_ : w.grownBy w' none), Calls Try.prog 34 #[vV s cl sq a1 n1 c1 g a2 n2 c2 a3 n3 c3] w' fun e w'' => e = .returned (.bool x) ∧ w'.grownBy w'' none) := HX
  replace HY : Hid (∀ w' (_ : w.grownBy w' none), Calls Try.prog 34 #[vV s' cl' sq' a1' n1' c1' g' a2' n2' c2' a3' n3' c3'] w' fun e w'' => e = .returned (.bool y) ∧ w'.grownBy w'' none) := HY
  replace HH : Hid (∀ w' (_ : w.grownBy w' none), Calls Try.prog 36 #[.slice a1 n1 c1, .agg #[iV cl', iV sq']] w' fun e w'' => e = .returned (.bool t) ∧ w'.grownBy w'' none) := HH
  simp only at ho'
  obtain ⟨z, hz⟩ : ∃ z, (s.toList == s'.toList) = z := ⟨_, rfl⟩
  rw [hz] at ho'
  have HZ := Lib.hid hz; clear hz
  have HO := Lib.hid ho'; clear ho'
  show Calls _ _ #[vV s cl sq a1 n1 c1 g a2 n2 c2 a3 n3 c3, vV s' cl' sq' a1' n1' c1' g' a2' n2' c2' a3' n3' c3'] w _
  go_enter Try.func16, Try.ntmps16
  go_upto_region 1 with fail
  go_region
  focus
    obtain ⟨M1, hM1⟩ : ∃ M, M = w.heap.size + 1 + 1 := ⟨_, rfl⟩
    obtain ⟨M2, hM2⟩ : ∃ M, M = w.heap.size + 1 + 1 + 1 := ⟨_, rfl⟩
    obtain ⟨W0, hW0⟩ : ∃ W0, W0 = ((((w.alloc (.cells #[.string s, iV cl, iV sq, .slice a1 n1 c1, .bool g, .slice a2 n2 c2, .slice a3 n3 c3] 25)).alloc (.cells #[.string s', iV cl', iV sq', .slice a1' n1' c1', .bool g', .slice a2' n2' c2', .slice a3' n3' c3'] 25)).alloc (.cells #[.string s, iV cl, iV sq, .slice a1 n1 c1, .bool g, .slice a2 n2 c2, .slice a3 n3 c3] 55)).alloc (.cells #[.string s', iV cl', iV sq', .slice a1' n1' c1', .bool g', .slice a2' n2' c2', .slice a3' n3' c3'] 55)).drew := ⟨_, rfl⟩
    have hG0 : w.grownBy W0 none := by rw [hW0]; exact gb_drew (gb_alloc (gb_alloc (gb_alloc (gb_alloc (gb_refl _ _) _) _) _) _)
    have hP0 : Blk W0 M1 55 [.string s, iV cl, iV sq, .slice a1 n1 c1, .bool g, .slice a2 n2 c2, .slice a3 n3 c3] := by rw [hW0, hM1]; exact ((blk_at _ [.string s, iV cl, iV sq, .slice a1 n1 c1, .bool g, .slice a2 n2 c2, .slice a3 n3 c3] 55 (by simp)).alloc _).drew
    have hP1 : Blk W0 M2 55 [.string s', iV cl', iV sq', .slice a1' n1' c1', .bool g', .slice a2' n2' c2', .slice a3' n3' c3'] := by rw [hW0, hM2]; exact (blk_at _ [.string s', iV cl', iV sq', .slice a1' n1' c1', .bool g', .slice a2' n2' c2', .slice a3' n3' c3'] 55 (by simp)).drew
    rw [← hW0, ← hM2, ← hM1]
  rotate_left
  focus
    obtain ⟨M2, hM2⟩ : ∃ M, M = w.heap.size + 1 + 1 := ⟨_, rfl⟩
    obtain ⟨M1, hM1⟩ : ∃ M, M = w.heap.size + 1 + 1 + 1 := ⟨_, rfl⟩
    obtain ⟨W0, hW0⟩ : ∃ W0, W0 = ((((w.alloc (.cells #[.string s, iV cl, iV sq, .slice a1 n1 c1, .bool g, .slice a2 n2 c2, .slice a3 n3 c3] 25)).alloc (.cells #[.string s', iV cl', iV sq', .slice a1' n1' c1', .bool g', .slice a2' n2' c2', .slice a3' n3' c3'] 25)).alloc (.cells #[.string s', iV cl', iV sq', .slice a1' n1' c1', .bool g', .slice a2' n2' c2', .slice a3' n3' c3'] 55)).alloc (.cells #[.string s, iV cl, iV sq, .slice a1 n1 c1, .bool g, .slice a2 n2 c2, .slice a3 n3 c3] 55)).drew := ⟨_, rfl⟩
    have hG0 : w.grownBy W0 none := by rw [hW0]; exact gb_drew (gb_alloc (gb_alloc (gb_alloc (gb_alloc (gb_refl _ _) _) _) _) _)
    have hP1 : Blk W0 M2 55 [.string s', iV cl', iV sq', .slice a1' n1' c1', .bool g', .slice a2' n2' c2', .slice a3' n3' c3'] := by rw [hW0, hM2]; exact ((blk_at _ [.string s', iV cl', iV sq', .slice a1' n1' c1', .bool g', .slice a2' n2' c2', .slice a3' n3' c3'] 55 (by simp)).alloc _).drew
    have hP0 : Blk W0 M1 55 [.string s, iV cl, iV sq, .slice a1 n1 c1, .bool g, .slice a2 n2 c2, .slice a3 n3 c3] := by rw [hW0, hM1]; exact (blk_at _ [.string s, iV cl, iV sq, .slice a1 n1 c1, .bool g, .slice a2 n2 c2, .slice a3 n3 c3] 55 (by simp)).drew
    rw [← hW0, ← hM1, ← hM2]
  all_goals
    have HG0 := Lib.hid (And.intro hG0 (And.intro hP0 hP1)); clear hG0 hP0 hP1 hW0 hM1 hM2
    go_upto_region 2 with fail
    cases x with
    | false =>
      refine Fg.region_t [] [.any, .any, .any, .any, .val (Value.bool false), .any, .any, .any, .any, .any, .any, .val (vV s cl sq a1 n1 c1 g a2 n2 c2 a3 n3 c3), .val (Value.bool false), .val (Value.bool false), .val undef, .val undef, .val (Value.bool false), .val (Value.bool false), .val undef, .val undef, .val undef, .val undef, .val undef, .val undef, .val undef, .val (Value.bool false), .val (Value.bool false), .val undef, .val undef, .val undef, .val undef, .val undef, .val undef, .val (Value.bool false)] W0 24 (gb_refl _ _) (by kernel_rfl) (by kernel_rfl) (by kernel_rfl) (by kernel_rfl) (by decide) (by kernel_rfl) ?_ ?_
      · refine ⟨Fg.vT rfl (by decide) fun ac w h => ?_, ?_⟩
        · have e5 : ac.tmps.getD 5 undef = Value.pointer (some ⟨M1, 0, none⟩) := h.rest 5 (by kernel_rfl)
          have hb1 := HG0.out.2.1.grown h.base (by simp)
          have m0 := hb1.cell (i := 0) rfl
          have m1 := hb1.cell (i := 1) rfl
          have m2 := hb1.cell (i := 2) rfl
          have m3 := hb1.cell (i := 3) rfl
          have m4 := hb1.cell (i := 4) rfl
          have m5 := hb1.cell (i := 5) rfl
          have m6 := hb1.cell (i := 6) rfl
          refine ⟨vV s cl sq a1 n1 c1 g a2 n2 c2 a3 n3 c3, w, wants_none rfl, ?_, gb_refl _ _, rfl⟩
          clear h
          simp only [execOp, Act.eval, e5]
          go_simp
        refine ⟨Fg.cT rfl (by decide) fun ac w h => ?_, ?_⟩
        · have e11 : ac.tmps.getD 11 undef = vV s cl sq a1 n1 c1 g a2 n2 c2 a3 n3 c3 := h.dep 11 (by kernel_rfl)
          refine ⟨34, #[vV s cl sq a1 n1 c1 g a2 n2 c2 a3 n3 c3], wants_none rfl, Fg.run_call rfl rfl (by simp only [List.map_toArray, List.map_cons, List.map_nil, Act.eval, e11]) (Fg.run_enter Try.func34 (by kernel_rfl) (by kernel_rfl)), ?_⟩
          exact (HX.out w (gb_trans HG0.out.1 h.base)).mono fun _ _ ⟨he, hg⟩ => ⟨_, he, hg, rfl⟩
        refine ⟨Fg.vT rfl (by decide) fun ac w h => ?_, ?_⟩
        · have e12 : ac.tmps.getD 12 undef = Value.bool false := h.dep 12 (by kernel_rfl)
          exact ⟨_, w, wants_none rfl, Fg.run_move rfl e12, gb_refl _ _, rfl⟩
        refine ⟨Fg.sT rfl (by decide) (fun _ => rfl) fun ac w h => ?_, ?_⟩
        · have e13 : ac.tmps.getD 13 undef = Value.bool false := h.dep 13 (by kernel_rfl)
          exact not_wants (d := 13) rfl rfl (by rw [h.size]; show 13 < 34; decide) e13 (by decide)
        refine ⟨Fg.sT rfl (by decide) (fun _ => rfl) fun ac w h => ?_, ?_⟩
        · have e13 : ac.tmps.getD 13 undef = Value.bool false := h.dep 13 (by kernel_rfl)
          exact not_wants (d := 13) rfl rfl (by rw [h.size]; show 13 < 34; decide) e13 (by decide)
        refine ⟨Fg.vT rfl (by decide) fun ac w h => ?_, ?_⟩
        · have e13 : ac.tmps.getD 13 undef = Value.bool false := h.dep 13 (by kernel_rfl)
          refine ⟨Value.bool false, w, wants_none rfl, ?_, gb_refl _ _, rfl⟩
          clear h
          simp only [execOp, Act.eval, e13]
          go_simp
        refine ⟨Fg.vT rfl (by decide) fun ac w h => ?_, ?_⟩
        · have e16 : ac.tmps.getD 16 undef = Value.bool false := h.dep 16 (by kernel_rfl)
          exact ⟨_, w, wants_none rfl, Fg.run_move rfl e16, gb_refl _ _, rfl⟩
        refine ⟨Fg.sT rfl (by decide) (fun _ => rfl) fun ac w h => ?_, ?_⟩
        · have e17 : ac.tmps.getD 17 undef = Value.bool false := h.dep 17 (by kernel_rfl)
          exact not_wants (d := 17) rfl rfl (by rw [h.size]; show 17 < 34; decide) e17 (by decide)
        refine ⟨Fg.sT rfl (by decide) (fun _ => rfl) fun ac w h => ?_, ?_⟩
        · have e17 : ac.tmps.getD 17 undef = Value.bool false := h.dep 17 (by kernel_rfl)
          exact not_wants (d := 17) rfl rfl (by rw [h.size]; show 17 < 34; decide) e17 (by decide)
        refine ⟨Fg.sT rfl (by decide) (fun _ => rfl) fun ac w h => ?_, ?_⟩
        · have e17 : ac.tmps.getD 17 undef = Value.bool false := h.dep 17 (by kernel_rfl)
          exact not_wants (d := 17) rfl rfl (by rw [h.size]; show 17 < 34; decide) e17 (by decide)
        refine ⟨Fg.sT rfl (by decide) (fun _ => rfl) fun ac w h => ?_, ?_⟩
        · have e17 : ac.tmps.getD 17 undef = Value.bool false := h.dep 17 (by kernel_rfl)
          exact not_wants (d := 17) rfl rfl (by rw [h.size]; show 17 < 34; decide) e17 (by decide)
        refine ⟨Fg.sT rfl (by decide) (fun _ => rfl) fun ac w h => ?_, ?_⟩
        · have e17 : ac.tmps.getD 17 undef = Value.bool false := h.dep 17 (by kernel_rfl)
          exact not_wants (d := 17) rfl rfl (by rw [h.size]; show 17 < 34; decide) e17 (by decide)
        refine ⟨Fg.sT rfl (by decide) (fun _ => rfl) fun ac w h => ?_, ?_⟩
        · have e17 : ac.tmps.getD 17 undef = Value.bool false := h.dep 17 (by kernel_rfl)
          exact not_wants (d := 17) rfl rfl (by rw [h.size]; show 17 < 34; decide) e17 (by decide)
        refine ⟨Fg.sT rfl (by decide) (fun _ => rfl) fun ac w h => ?_, ?_⟩
        · have e17 : ac.tmps.getD 17 undef = Value.bool false := h.dep 17 (by kernel_rfl)
          exact not_wants (d := 17) rfl rfl (by rw [h.size]; show 17 < 34; decide) e17 (by decide)
        refine ⟨Fg.vT rfl (by decide) fun ac w h => ?_, ?_⟩
        · have e17 : ac.tmps.getD 17 undef = Value.bool false := h.dep 17 (by kernel_rfl)
          refine ⟨Value.bool false, w, wants_none rfl, ?_, gb_refl _ _, rfl⟩
          clear h
          simp only [execOp, Act.eval, e17]
          go_simp
        refine ⟨Fg.vT rfl (by decide) fun ac w h => ?_, ?_⟩
        · have e25 : ac.tmps.getD 25 undef = Value.bool false := h.dep 25 (by kernel_rfl)
          exact ⟨_, w, wants_none rfl, Fg.run_move rfl e25, gb_refl _ _, rfl⟩
        refine ⟨Fg.sT rfl (by decide) (fun _ => rfl) fun ac w h => ?_, ?_⟩
        · have e26 : ac.tmps.getD 26 undef = Value.bool false := h.dep 26 (by kernel_rfl)
          exact not_wants (d := 26) rfl rfl (by rw [h.size]; show 26 < 34; decide) e26 (by decide)
        refine ⟨Fg.sT rfl (by decide) (fun _ => rfl) fun ac w h => ?_, ?_⟩
        · have e26 : ac.tmps.getD 26 undef = Value.bool false := h.dep 26 (by kernel_rfl)
          exact not_wants (d := 26) rfl rfl (by rw [h.size]; show 26 < 34; decide) e26 (by decide)
        refine ⟨Fg.sT rfl (by decide) (fun _ => rfl) fun ac w h => ?_, ?_⟩
        · have e26 : ac.tmps.getD 26 undef = Value.bool false := h.dep 26 (by kernel_rfl)
          exact not_wants (d := 26) rfl rfl (by rw [h.size]; show 26 < 34; decide) e26 (by decide)
        refine ⟨Fg.sT rfl (by decide) (fun _ => rfl) fun ac w h => ?_, ?_⟩
        · have e26 : ac.tmps.getD 26 undef = Value.bool false := h.dep 26 (by kernel_rfl)
          exact not_wants (d := 26) rfl rfl (by rw [h.size]; show 26 < 34; decide) e26 (by decide)
        refine ⟨Fg.sT rfl (by decide) (fun _ => rfl) fun ac w h => ?_, ?_⟩
        · have e26 : ac.tmps.getD 26 undef = Value.bool false := h.dep 26 (by kernel_rfl)
          exact not_wants (d := 26) rfl rfl (by rw [h.size]; show 26 < 34; decide) e26 (by decide)
        refine ⟨Fg.sT rfl (by decide) (fun _ => rfl) fun ac w h => ?_, ?_⟩
        · have e26 : ac.tmps.getD 26 undef = Value.bool false := h.dep 26 (by kernel_rfl)
          exact not_wants (d := 26) rfl rfl (by rw [h.size]; show 26 < 34; decide) e26 (by decide)
        refine ⟨Fg.vT rfl (by decide) fun ac w h => ?_, ?_⟩
        · have e26 : ac.tmps.getD 26 undef = Value.bool false := h.dep 26 (by kernel_rfl)
          refine ⟨Value.bool false, w, wants_none rfl, ?_, gb_refl _ _, rfl⟩
          clear h
          simp only [execOp, Act.eval, e26]
          go_simp
        refine ⟨Fg.vT rfl (by decide) fun ac w h => ?_, ?_⟩
        · have e33 : ac.tmps.getD 33 undef = Value.bool false := h.dep 33 (by kernel_rfl)
          exact ⟨_, w, wants_none rfl, Fg.run_assign rfl e33, gb_refl _ _, rfl⟩
        trivial
      · intro aq wq hB hsz hdf hrest hslots hpt
        obtain ⟨u0, e0⟩ : ∃ u, aq.tmps.getD 0 undef = u := ⟨_, rfl⟩
        obtain ⟨u1, e1⟩ : ∃ u, aq.tmps.getD 1 undef = u := ⟨_, rfl⟩
        obtain ⟨u2, e2⟩ : ∃ u, aq.tmps.getD 2 undef = u := ⟨_, rfl⟩
        obtain ⟨u3, e3⟩ : ∃ u, aq.tmps.getD 3 undef = u := ⟨_, rfl⟩
        have e4 : aq.tmps.getD 4 undef = Value.bool false := hslots 4 (by kernel_rfl)
        obtain ⟨u5, e5⟩ : ∃ u, aq.tmps.getD 5 undef = u := ⟨_, rfl⟩
        obtain ⟨u6, e6⟩ : ∃ u, aq.tmps.getD 6 undef = u := ⟨_, rfl⟩
        obtain ⟨u7, e7⟩ : ∃ u, aq.tmps.getD 7 undef = u := ⟨_, rfl⟩
        obtain ⟨u8, e8⟩ : ∃ u, aq.tmps.getD 8 undef = u := ⟨_, rfl⟩
        obtain ⟨u9, e9⟩ : ∃ u, aq.tmps.getD 9 undef = u := ⟨_, rfl⟩
        obtain ⟨u10, e10⟩ : ∃ u, aq.tmps.getD 10 undef = u := ⟨_, rfl⟩
        obtain ⟨u11, e11⟩ : ∃ u, aq.tmps.getD 11 undef = u := ⟨_, rfl⟩
        obtain ⟨u12, e12⟩ : ∃ u, aq.tmps.getD 12 undef = u := ⟨_, rfl⟩
        obtain ⟨u13, e13⟩ : ∃ u, aq.tmps.getD 13 undef = u := ⟨_, rfl⟩
        obtain ⟨u14, e14⟩ : ∃ u, aq.tmps.getD 14 undef = u := ⟨_, rfl⟩
        obtain ⟨u15, e15⟩ : ∃ u, aq.tmps.getD 15 undef = u := ⟨_, rfl⟩
        obtain ⟨u16, e16⟩ : ∃ u, aq.tmps.getD 16 undef = u := ⟨_, rfl⟩
        obtain ⟨u17, e17⟩ : ∃ u, aq.tmps.getD 17 undef = u := ⟨_, rfl⟩
        obtain ⟨u18, e18⟩ : ∃ u, aq.tmps.getD 18 undef = u := ⟨_, rfl⟩
        obtain ⟨u19, e19⟩ : ∃ u, aq.tmps.getD 19 undef = u := ⟨_, rfl⟩
        obtain ⟨u20, e20⟩ : ∃ u, aq.tmps.getD 20 undef = u := ⟨_, rfl⟩
        obtain ⟨u21, e21⟩ : ∃ u, aq.tmps.getD 21 undef = u := ⟨_, rfl⟩
        obtain ⟨u22, e22⟩ : ∃ u, aq.tmps.getD 22 undef = u := ⟨_, rfl⟩
        obtain ⟨u23, e23⟩ : ∃ u, aq.tmps.getD 23 undef = u := ⟨_, rfl⟩
        obtain ⟨u24, e24⟩ : ∃ u, aq.tmps.getD 24 undef = u := ⟨_, rfl⟩
        obtain ⟨u25, e25⟩ : ∃ u, aq.tmps.getD 25 undef = u := ⟨_, rfl⟩
        obtain ⟨u26, e26⟩ : ∃ u, aq.tmps.getD 26 undef = u := ⟨_, rfl⟩
        obtain ⟨u27, e27⟩ : ∃ u, aq.tmps.getD 27 undef = u := ⟨_, rfl⟩
        obtain ⟨u28, e28⟩ : ∃ u, aq.tmps.getD 28 undef = u := ⟨_, rfl⟩
        obtain ⟨u29, e29⟩ : ∃ u, aq.tmps.getD 29 undef = u := ⟨_, rfl⟩
        obtain ⟨u30, e30⟩ : ∃ u, aq.tmps.getD 30 undef = u := ⟨_, rfl⟩
        obtain ⟨u31, e31⟩ : ∃ u, aq.tmps.getD 31 undef = u := ⟨_, rfl⟩
        obtain ⟨u32, e32⟩ : ∃ u, aq.tmps.getD 32 undef = u := ⟨_, rfl⟩
        obtain ⟨u33, e33⟩ : ∃ u, aq.tmps.getD 33 undef = u := ⟨_, rfl⟩
        obtain rfl := Fg.frame_is (a := aq) (vs := [u0, u1, u2, u3, Value.bool false, u5, u6, u7, u8, u9, u10, u11, u12, u13, u14, u15, u16, u17, u18, u19, u20, u21, u22, u23, u24, u25, u26, u27, u28, u29, u30, u31, u32, u33]) hsz ⟨e0, e1, e2, e3, e4, e5, e6, e7, e8, e9, e10, e11, e12, e13, e14, e15, e16, e17, e18, e19, e20, e21, e22, e23, e24, e25, e26, e27, e28, e29, e30, e31, e32, e33, trivial⟩ hdf
        clear hsz hdf hrest hslots hpt e0 e1 e2 e3 e4 e5 e6 e7 e8 e9 e10 e11 e12 e13 e14 e15 e16 e17 e18 e19 e20 e21 e22 e23 e24 e25 e26 e27 e28 e29 e30 e31 e32 e33
        have HR := Lib.hid (gb_trans HG0.out.1 hB)
        clear hB
        refine wpList_nil ?_
        go_wp2
        go_ret
        exact ⟨by rw [HO.out]; rfl, HR.out⟩
    | true =>
      cases y with
      | false =>
        refine Fg.region_t [] [.any, .any, .any, .any, .val (Value.bool false), .any, .any, .any, .any, .any, .any, .val (vV s cl sq a1 n1 c1 g a2 n2 c2 a3 n3 c3), .val (Value.bool true), .val (Value.bool true), .val (vV s' cl' sq' a1' n1' c1' g' a2' n2' c2' a3' n3' c3'), .val (Value.bool false), .val (Value.bool false), .val (Value.bool false), .val undef, .val undef, .val undef, .val undef, .val undef, .val undef, .val undef, .val (Value.bool false), .val (Value.bool false), .val undef, .val undef, .val undef, .val undef, .val undef, .val undef, .val (Value.bool false)] W0 24 (gb_refl _ _) (by kernel_rfl) (by kernel_rfl) (by kernel_rfl) (by kernel_rfl) (by decide) (by kernel_rfl) ?_ ?_
        · refine ⟨Fg.vT rfl (by decide) fun ac w h => ?_, ?_⟩
          · have e5 : ac.tmps.getD 5 undef = Value.pointer (some ⟨M1, 0, none⟩) := h.rest 5 (by kernel_rfl)
            have hb1 := HG0.out.2.1.grown h.base (by simp)
            have m0 := hb1.cell (i := 0) rfl
            have m1 := hb1.cell (i := 1) rfl
            have m2 := hb1.cell (i := 2) rfl
            have m3 := hb1.cell (i := 3) rfl
            have m4 := hb1.cell (i := 4) rfl
            have m5 := hb1.cell (i := 5) rfl
            have m6 := hb1.cell (i := 6) rfl
            refine ⟨vV s cl sq a1 n1 c1 g a2 n2 c2 a3 n3 c3, w, wants_none rfl, ?_, gb_refl _ _, rfl⟩
            clear h
            simp only [execOp, Act.eval, e5]
            go_simp
          refine ⟨Fg.cT rfl (by decide) fun ac w h => ?_, ?_⟩
          · have e11 : ac.tmps.getD 11 undef = vV s cl sq a1 n1 c1 g a2 n2 c2 a3 n3 c3 := h.dep 11 (by kernel_rfl)
            refine ⟨34, #[vV s cl sq a1 n1 c1 g a2 n2 c2 a3 n3 c3], wants_none rfl, Fg.run_call rfl rfl (by simp only [List.map_toArray, List.map_cons, List.map_nil, Act.eval, e11]) (Fg.run_enter Try.func34 (by kernel_rfl) (by kernel_rfl)), ?_⟩
            exact (HX.out w (gb_trans HG0.out.1 h.base)).mono fun _ _ ⟨he, hg⟩ => ⟨_, he, hg, rfl⟩
          refine ⟨Fg.vT rfl (by decide) fun ac w h => ?_, ?_⟩
          · have e12 : ac.tmps.getD 12 undef = Value.bool true := h.dep 12 (by kernel_rfl)
            exact ⟨_, w, wants_none rfl, Fg.run_move rfl e12, gb_refl _ _, rfl⟩
          refine ⟨Fg.vT rfl (by decide) fun ac w h => ?_, ?_⟩
          · have e13 : ac.tmps.getD 13 undef = Value.bool true := h.dep 13 (by kernel_rfl)
            have e6 : ac.tmps.getD 6 undef = Value.pointer (some ⟨M2, 0, none⟩) := h.rest 6 (by kernel_rfl)
            have hb2 := HG0.out.2.2.grown h.base (by simp)
            have m0 := hb2.cell (i := 0) rfl
            have m1 := hb2.cell (i := 1) rfl
            have m2 := hb2.cell (i := 2) rfl
            have m3 := hb2.cell (i := 3) rfl
            have m4 := hb2.cell (i := 4) rfl
            have m5 := hb2.cell (i := 5) rfl
            have m6 := hb2.cell (i := 6) rfl
            refine ⟨vV s' cl' sq' a1' n1' c1' g' a2' n2' c2' a3' n3' c3', w, wants_some (d := 13) rfl rfl (by rw [h.size]; show 13 < 34; decide) e13, ?_, gb_refl _ _, rfl⟩
            clear h
            simp only [execOp, Act.eval, e6]
            go_simp
          refine ⟨Fg.cT rfl (by decide) fun ac w h => ?_, ?_⟩
          · have e13 : ac.tmps.getD 13 undef = Value.bool true := h.dep 13 (by kernel_rfl)
            have e14 : ac.tmps.getD 14 undef = vV s' cl' sq' a1' n1' c1' g' a2' n2' c2' a3' n3' c3' := h.dep 14 (by kernel_rfl)
            refine ⟨34, #[vV s' cl' sq' a1' n1' c1' g' a2' n2' c2' a3' n3' c3'], wants_some (d := 13) rfl rfl (by rw [h.size]; show 13 < 34; decide) e13, Fg.run_call rfl rfl (by simp only [List.map_toArray, List.map_cons, List.map_nil, Act.eval, e14]) (Fg.run_enter Try.func34 (by kernel_rfl) (by kernel_rfl)), ?_⟩
            exact (HY.out w (gb_trans HG0.out.1 h.base)).mono fun _ _ ⟨he, hg⟩ => ⟨_, he, hg, rfl⟩
          refine ⟨Fg.vT rfl (by decide) fun ac w h => ?_, ?_⟩
          · have e13 : ac.tmps.getD 13 undef = Value.bool true := h.dep 13 (by kernel_rfl)
            have e15 : ac.tmps.getD 15 undef = Value.bool false := h.dep 15 (by kernel_rfl)
            refine ⟨Value.bool false, w, wants_none rfl, ?_, gb_refl _ _, rfl⟩
            clear h
            simp only [execOp, Act.eval, e13, e15]
            go_simp
          refine ⟨Fg.vT rfl (by decide) fun ac w h => ?_, ?_⟩
          · have e16 : ac.tmps.getD 16 undef = Value.bool false := h.dep 16 (by kernel_rfl)
            exact ⟨_, w, wants_none rfl, Fg.run_move rfl e16, gb_refl _ _, rfl⟩
          refine ⟨Fg.sT rfl (by decide) (fun _ => rfl) fun ac w h => ?_, ?_⟩
          · have e17 : ac.tmps.getD 17 undef = Value.bool false := h.dep 17 (by kernel_rfl)
            exact not_wants (d := 17) rfl rfl (by rw [h.size]; show 17 < 34; decide) e17 (by decide)
          refine ⟨Fg.sT rfl (by decide) (fun _ => rfl) fun ac w h => ?_, ?_⟩
          · have e17 : ac.tmps.getD 17 undef = Value.bool false := h.dep 17 (by kernel_rfl)
            exact not_wants (d := 17) rfl rfl (by rw [h.size]; show 17 < 34; decide) e17 (by decide)
          refine ⟨Fg.sT rfl (by decide) (fun _ => rfl) fun ac w h => ?_, ?_⟩
          · have e17 : ac.tmps.getD 17 undef = Value.bool false := h.dep 17 (by kernel_rfl)
            exact not_wants (d := 17) rfl rfl (by rw [h.size]; show 17 < 34; decide) e17 (by decide)
          refine ⟨Fg.sT rfl (by decide) (fun _ => rfl) fun ac w h => ?_, ?_⟩
          · have e17 : ac.tmps.getD 17 undef = Value.bool false := h.dep 17 (by kernel_rfl)
            exact not_wants (d := 17) rfl rfl (by rw [h.size]; show 17 < 34; decide) e17 (by decide)
          refine ⟨Fg.sT rfl (by decide) (fun _ => rfl) fun ac w h => ?_, ?_⟩
          · have e17 : ac.tmps.getD 17 undef = Value.bool false := h.dep 17 (by kernel_rfl)
            exact not_wants (d := 17) rfl rfl (by rw [h.size]; show 17 < 34; decide) e17 (by decide)
          refine ⟨Fg.sT rfl (by decide) (fun _ => rfl) fun ac w h => ?_, ?_⟩
          · have e17 : ac.tmps.getD 17 undef = Value.bool false := h.dep 17 (by kernel_rfl)
            exact not_wants (d := 17) rfl rfl (by rw [h.size]; show 17 < 34; decide) e17 (by decide)
          refine ⟨Fg.sT rfl (by decide) (fun _ => rfl) fun ac w h => ?_, ?_⟩
          · have e17 : ac.tmps.getD 17 undef = Value.bool false := h.dep 17 (by kernel_rfl)
            exact not_wants (d := 17) rfl rfl (by rw [h.size]; show 17 < 34; decide) e17 (by decide)
          refine ⟨Fg.vT rfl (by decide) fun ac w h => ?_, ?_⟩
          · have e17 : ac.tmps.getD 17 undef = Value.bool false := h.dep 17 (by kernel_rfl)
            refine ⟨Value.bool false, w, wants_none rfl, ?_, gb_refl _ _, rfl⟩
            clear h
            simp only [execOp, Act.eval, e17]
            go_simp
          refine ⟨Fg.vT rfl (by decide) fun ac w h => ?_, ?_⟩
          · have e25 : ac.tmps.getD 25 undef = Value.bool false := h.dep 25 (by kernel_rfl)
            exact ⟨_, w, wants_none rfl, Fg.run_move rfl e25, gb_refl _ _, rfl⟩
          refine ⟨Fg.sT rfl (by decide) (fun _ => rfl) fun ac w h => ?_, ?_⟩
          · have e26 : ac.tmps.getD 26 undef = Value.bool false := h.dep 26 (by kernel_rfl)
            exact not_wants (d := 26) rfl rfl (by rw [h.size]; show 26 < 34; decide) e26 (by decide)
          refine ⟨Fg.sT rfl (by decide) (fun _ => rfl) fun ac w h => ?_, ?_⟩
          · have e26 : ac.tmps.getD 26 undef = Value.bool false := h.dep 26 (by kernel_rfl)
            exact not_wants (d := 26) rfl rfl (by rw [h.size]; show 26 < 34; decide) e26 (by decide)
          refine ⟨Fg.sT rfl (by decide) (fun _ => rfl) fun ac w h => ?_, ?_⟩
          · have e26 : ac.tmps.getD 26 undef = Value.bool false := h.dep 26 (by kernel_rfl)
            exact not_wants (d := 26) rfl rfl (by rw [h.size]; show 26 < 34; decide) e26 (by decide)
          refine ⟨Fg.sT rfl (by decide) (fun _ => rfl) fun ac w h => ?_, ?_⟩
          · have e26 : ac.tmps.getD 26 undef = Value.bool false := h.dep 26 (by kernel_rfl)
            exact not_wants (d := 26) rfl rfl (by rw [h.size]; show 26 < 34; decide) e26 (by decide)
          refine ⟨Fg.sT rfl (by decide) (fun _ => rfl) fun ac w h => ?_, ?_⟩
          · have e26 : ac.tmps.getD 26 undef = Value.bool false := h.dep 26 (by kernel_rfl)
            exact not_wants (d := 26) rfl rfl (by rw [h.size]; show 26 < 34; decide) e26 (by decide)
          refine ⟨Fg.sT rfl (by decide) (fun _ => rfl) fun ac w h => ?_, ?_⟩
          · have e26 : ac.tmps.getD 26 undef = Value.bool false := h.dep 26 (by kernel_rfl)
            exact not_wants (d := 26) rfl rfl (by rw [h.size]; show 26 < 34; decide) e26 (by decide)
          refine ⟨Fg.vT rfl (by decide) fun ac w h => ?_, ?_⟩
          · have e26 : ac.tmps.getD 26 undef = Value.bool false := h.dep 26 (by kernel_rfl)
            refine ⟨Value.bool false, w, wants_none rfl, ?_, gb_refl _ _, rfl⟩
            clear h
            simp only [execOp, Act.eval, e26]
            go_simp
          refine ⟨Fg.vT rfl (by decide) fun ac w h => ?_, ?_⟩
          · have e33 : ac.tmps.getD 33 undef = Value.bool false := h.dep 33 (by kernel_rfl)
            exact ⟨_, w, wants_none rfl, Fg.run_assign rfl e33, gb_refl _ _, rfl⟩
          trivial
        · intro aq wq hB hsz hdf hrest hslots hpt
          obtain ⟨u0, e0⟩ : ∃ u, aq.tmps.getD 0 undef = u := ⟨_, rfl⟩
          obtain ⟨u1, e1⟩ : ∃ u, aq.tmps.getD 1 undef = u := ⟨_, rfl⟩
          obtain ⟨u2, e2⟩ : ∃ u, aq.tmps.getD 2 undef = u := ⟨_, rfl⟩
          obtain ⟨u3, e3⟩ : ∃ u, aq.tmps.getD 3 undef = u := ⟨_, rfl⟩
          have e4 : aq.tmps.getD 4 undef = Value.bool false := hslots 4 (by kernel_rfl)
          obtain ⟨u5, e5⟩ : ∃ u, aq.tmps.getD 5 undef = u := ⟨_, rfl⟩
          obtain ⟨u6, e6⟩ : ∃ u, aq.tmps.getD 6 undef = u := ⟨_, rfl⟩
          obtain ⟨u7, e7⟩ : ∃ u, aq.tmps.getD 7 undef = u := ⟨_, rfl⟩
          obtain ⟨u8, e8⟩ : ∃ u, aq.tmps.getD 8 undef = u := ⟨_, rfl⟩
          obtain ⟨u9, e9⟩ : ∃ u, aq.tmps.getD 9 undef = u := ⟨_, rfl⟩
          obtain ⟨u10, e10⟩ : ∃ u, aq.tmps.getD 10 undef = u := ⟨_, rfl⟩
          obtain ⟨u11, e11⟩ : ∃ u, aq.tmps.getD 11 undef = u := ⟨_, rfl⟩
          obtain ⟨u12, e12⟩ : ∃ u, aq.tmps.getD 12 undef = u := ⟨_, rfl⟩
          obtain ⟨u13, e13⟩ : ∃ u, aq.tmps.getD 13 undef = u := ⟨_, rfl⟩
          obtain ⟨u14, e14⟩ : ∃ u, aq.tmps.getD 14 undef = u := ⟨_, rfl⟩
          obtain ⟨u15, e15⟩ : ∃ u, aq.tmps.getD 15 undef = u := ⟨_, rfl⟩
          obtain ⟨u16, e16⟩ : ∃ u, aq.tmps.getD 16 undef = u := ⟨_, rfl⟩
          obtain ⟨u17, e17⟩ : ∃ u, aq.tmps.getD 17 undef = u := ⟨_, rfl⟩
          obtain ⟨u18, e18⟩ : ∃ u, aq.tmps.getD 18 undef = u := ⟨_, rfl⟩
          obtain ⟨u19, e19⟩ : ∃ u, aq.tmps.getD 19 undef = u := ⟨_, rfl⟩
          obtain ⟨u20, e20⟩ : ∃ u, aq.tmps.getD 20 undef = u := ⟨_, rfl⟩
          obtain ⟨u21, e21⟩ : ∃ u, aq.tmps.getD 21 undef = u := ⟨_, rfl⟩
          obtain ⟨u22, e22⟩ : ∃ u, aq.tmps.getD 22 undef = u := ⟨_, rfl⟩
          obtain ⟨u23, e23⟩ : ∃ u, aq.tmps.getD 23 undef = u := ⟨_, rfl⟩
          obtain ⟨u24, e24⟩ : ∃ u, aq.tmps.getD 24 undef = u := ⟨_, rfl⟩
          obtain ⟨u25, e25⟩ : ∃ u, aq.tmps.getD 25 undef = u := ⟨_, rfl⟩
          obtain ⟨u26, e26⟩ : ∃ u, aq.tmps.getD 26 undef = u := ⟨_, rfl⟩
          obtain ⟨u27, e27⟩ : ∃ u, aq.tmps.getD 27 undef = u := ⟨_, rfl⟩
          obtain ⟨u28, e28⟩ : ∃ u, aq.tmps.getD 28 undef = u := ⟨_, rfl⟩
          obtain ⟨u29, e29⟩ : ∃ u, aq.tmps.getD 29 undef = u := ⟨_, rfl⟩
          obtain ⟨u30, e30⟩ : ∃ u, aq.tmps.getD 30 undef = u := ⟨_, rfl⟩
          obtain ⟨u31, e31⟩ : ∃ u, aq.tmps.getD 31 undef = u := ⟨_, rfl⟩
          obtain ⟨u32, e32⟩ : ∃ u, aq.tmps.getD 32 undef = u := ⟨_, rfl⟩
          obtain ⟨u33, e33⟩ : ∃ u, aq.tmps.getD 33 undef = u := ⟨_, rfl⟩
          obtain rfl := Fg.frame_is (a := aq) (vs := [u0, u1, u2, u3, Value.bool false, u5, u6, u7, u8, u9, u10, u11, u12, u13, u14, u15, u16, u17, u18, u19, u20, u21, u22, u23, u24, u25, u26, u27, u28, u29, u30, u31, u32, u33]) hsz ⟨e0, e1, e2, e3, e4, e5, e6, e7, e8, e9, e10, e11, e12, e13, e14, e15, e16, e17, e18, e19, e20, e21, e22, e23, e24, e25, e26, e27, e28, e29, e30, e31, e32, e33, trivial⟩ hdf
          clear hsz hdf hrest hslots hpt e0 e1 e2 e3 e4 e5 e6 e7 e8 e9 e10 e11 e12 e13 e14 e15 e16 e17 e18 e19 e20 e21 e22 e23 e24 e25 e26 e27 e28 e29 e30 e31 e32 e33
          have HR := Lib.hid (gb_trans HG0.out.1 hB)
          clear hB
          refine wpList_nil ?_
          go_wp2
          go_ret
          exact ⟨by rw [HO.out]; rfl, HR.out⟩
      | true =>
        cases z with
        | false =>
          refine Fg.region_t [] [.any, .any, .any, .any, .val (Value.bool false), .any, .any, .any, .any, .any, .any, .val (vV s cl sq a1 n1 c1 g a2 n2 c2 a3 n3 c3), .val (Value.bool true), .val (Value.bool true), .val (vV s' cl' sq' a1' n1' c1' g' a2' n2' c2' a3' n3' c3'), .val (Value.bool true), .val (Value.bool true), .val (Value.bool true), .val (Value.pointer (some ⟨M1, 0, none⟩)), .val (Value.pointer (some ⟨M1, 0, none⟩)), .val (Value.string s), .val (Value.pointer (some ⟨M2, 0, none⟩)), .val (Value.pointer (some ⟨M2, 0, none⟩)), .val (Value.string s'), .val (Value.bool false), .val (Value.bool false), .val (Value.bool false), .val undef, .val undef, .val undef, .val undef, .val undef, .val undef, .val (Value.bool false)] W0 24 (gb_refl _ _) (by kernel_rfl) (by kernel_rfl) (by kernel_rfl) (by kernel_rfl) (by decide) (by kernel_rfl) ?_ ?_
          · refine ⟨Fg.vT rfl (by decide) fun ac w h => ?_, ?_⟩
            · have e5 : ac.tmps.getD 5 undef = Value.pointer (some ⟨M1, 0, none⟩) := h.rest 5 (by kernel_rfl)
              have hb1 := HG0.out.2.1.grown h.base (by simp)
              have m0 := hb1.cell (i := 0) rfl
              have m1 := hb1.cell (i := 1) rfl
              have m2 := hb1.cell (i := 2) rfl
              have m3 := hb1.cell (i := 3) rfl
              have m4 := hb1.cell (i := 4) rfl
              have m5 := hb1.cell (i := 5) rfl
              have m6 := hb1.cell (i := 6) rfl
              refine ⟨vV s cl sq a1 n1 c1 g a2 n2 c2 a3 n3 c3, w, wants_none rfl, ?_, gb_refl _ _, rfl⟩
              clear h
              simp only [execOp, Act.eval, e5]
              go_simp
            refine ⟨Fg.cT rfl (by decide) fun ac w h => ?_, ?_⟩
            · have e11 : ac.tmps.getD 11 undef = vV s cl sq a1 n1 c1 g a2 n2 c2 a3 n3 c3 := h.dep 11 (by kernel_rfl)
              refine ⟨34, #[vV s cl sq a1 n1 c1 g a2 n2 c2 a3 n3 c3], wants_none rfl, Fg.run_call rfl rfl (by simp only [List.map_toArray, List.map_cons, List.map_nil, Act.eval, e11]) (Fg.run_enter Try.func34 (by kernel_rfl) (by kernel_rfl)), ?_⟩
              exact (HX.out w (gb_trans HG0.out.1 h.base)).mono fun _ _ ⟨he, hg⟩ => ⟨_, he, hg, rfl⟩
            refine ⟨Fg.vT rfl (by decide) fun ac w h => ?_, ?_⟩
            · have e12 : ac.tmps.getD 12 undef = Value.bool true := h.dep 12 (by kernel_rfl)
              exact ⟨_, w, wants_none rfl, Fg.run_move rfl e12, gb_refl _ _, rfl⟩
            refine ⟨Fg.vT rfl (by decide) fun ac w h => ?_, ?_⟩
            · have e13 : ac.tmps.getD 13 undef = Value.bool true := h.dep 13 (by kernel_rfl)
              have e6 : ac.tmps.getD 6 undef = Value.pointer (some ⟨M2, 0, none⟩) := h.rest 6 (by kernel_rfl)
              have hb2 := HG0.out.2.2.grown h.base (by simp)
              have m0 := hb2.cell (i := 0) rfl
              have m1 := hb2.cell (i := 1) rfl
              have m2 := hb2.cell (i := 2) rfl
              have m3 := hb2.cell (i := 3) rfl
              have m4 := hb2.cell (i := 4) rfl
              have m5 := hb2.cell (i := 5) rfl
              have m6 := hb2.cell (i := 6) rfl
              refine ⟨vV s' cl' sq' a1' n1' c1' g' a2' n2' c2' a3' n3' c3', w, wants_some (d := 13) rfl rfl (by rw [h.size]; show 13 < 34; decide) e13, ?_, gb_refl _ _, rfl⟩
              clear h
              simp only [execOp, Act.eval, e6]
              go_simp
            refine ⟨Fg.cT rfl (by decide) fun ac w h => ?_, ?_⟩
            · have e13 : ac.tmps.getD 13 undef = Value.bool true := h.dep 13 (by kernel_rfl)
              have e14 : ac.tmps.getD 14 undef = vV s' cl' sq' a1' n1' c1' g' a2' n2' c2' a3' n3' c3' := h.dep 14 (by kernel_rfl)
              refine ⟨34, #[vV s' cl' sq' a1' n1' c1' g' a2' n2' c2' a3' n3' c3'], wants_some (d := 13) rfl rfl (by rw [h.size]; show 13 < 34; decide) e13, Fg.run_call rfl rfl (by simp only [List.map_toArray, List.map_cons, List.map_nil, Act.eval, e14]) (Fg.run_enter Try.func34 (by kernel_rfl) (by kernel_rfl)), ?_⟩
              exact (HY.out w (gb_trans HG0.out.1 h.base)).mono fun _ _ ⟨he, hg⟩ => ⟨_, he, hg, rfl⟩
            refine ⟨Fg.vT rfl (by decide) fun ac w h => ?_, ?_⟩
            · have e13 : ac.tmps.getD 13 undef = Value.bool true := h.dep 13 (by kernel_rfl)
              have e15 : ac.tmps.getD 15 undef = Value.bool true := h.dep 15 (by kernel_rfl)
              refine ⟨Value.bool true, w, wants_none rfl, ?_, gb_refl _ _, rfl⟩
              clear h
              simp only [execOp, Act.eval, e13, e15]
              go_simp
            refine ⟨Fg.vT rfl (by decide) fun ac w h => ?_, ?_⟩
            · have e16 : ac.tmps.getD 16 undef = Value.bool true := h.dep 16 (by kernel_rfl)
              exact ⟨_, w, wants_none rfl, Fg.run_move rfl e16, gb_refl _ _, rfl⟩
            refine ⟨Fg.vT rfl (by decide) fun ac w h => ?_, ?_⟩
            · have e17 : ac.tmps.getD 17 undef = Value.bool true := h.dep 17 (by kernel_rfl)
              have e5 : ac.tmps.getD 5 undef = Value.pointer (some ⟨M1, 0, none⟩) := h.rest 5 (by kernel_rfl)
              refine ⟨Value.pointer (some ⟨M1, 0, none⟩), w, wants_some (d := 17) rfl rfl (by rw [h.size]; show 17 < 34; decide) e17, ?_, gb_refl _ _, rfl⟩
              clear h
              simp only [execOp, Act.eval, e5]
              go_simp
            refine ⟨Fg.vT rfl (by decide) fun ac w h => ?_, ?_⟩
            · have e17 : ac.tmps.getD 17 undef = Value.bool true := h.dep 17 (by kernel_rfl)
              have e18 : ac.tmps.getD 18 undef = Value.pointer (some ⟨M1, 0, none⟩) := h.dep 18 (by kernel_rfl)
              refine ⟨Value.pointer (some ⟨M1, 0, none⟩), w, wants_some (d := 17) rfl rfl (by rw [h.size]; show 17 < 34; decide) e17, ?_, gb_refl _ _, rfl⟩
              clear h
              simp only [execOp, Act.eval, e18]
              go_simp
            refine ⟨Fg.vT rfl (by decide) fun ac w h => ?_, ?_⟩
            · have e17 : ac.tmps.getD 17 undef = Value.bool true := h.dep 17 (by kernel_rfl)
              have e19 : ac.tmps.getD 19 undef = Value.pointer (some ⟨M1, 0, none⟩) := h.dep 19 (by kernel_rfl)
              have hb1 := HG0.out.2.1.grown h.base (by simp)
              have m0 := hb1.cell (i := 0) rfl
              refine ⟨Value.string s, w, wants_some (d := 17) rfl rfl (by rw [h.size]; show 17 < 34; decide) e17, ?_, gb_refl _ _, rfl⟩
              clear h
              simp only [execOp, Act.eval, e19]
              go_simp
            refine ⟨Fg.vT rfl (by decide) fun ac w h => ?_, ?_⟩
            · have e17 : ac.tmps.getD 17 undef = Value.bool true := h.dep 17 (by kernel_rfl)
              have e6 : ac.tmps.getD 6 undef = Value.pointer (some ⟨M2, 0, none⟩) := h.rest 6 (by kernel_rfl)
              refine ⟨Value.pointer (some ⟨M2, 0, none⟩), w, wants_some (d := 17) rfl rfl (by rw [h.size]; show 17 < 34; decide) e17, ?_, gb_refl _ _, rfl⟩
              clear h
              simp only [execOp, Act.eval, e6]
              go_simp
            refine ⟨Fg.vT rfl (by decide) fun ac w h => ?_, ?_⟩
            · have e17 : ac.tmps.getD 17 undef = Value.bool true := h.dep 17 (by kernel_rfl)
              have e21 : ac.tmps.getD 21 undef = Value.pointer (some ⟨M2, 0, none⟩) := h.dep 21 (by kernel_rfl)
              refine ⟨Value.pointer (some ⟨M2, 0, none⟩), w, wants_some (d := 17) rfl rfl (by rw [h.size]; show 17 < 34; decide) e17, ?_, gb_refl _ _, rfl⟩
              clear h
              simp only [execOp, Act.eval, e21]
              go_simp
            refine ⟨Fg.vT rfl (by decide) fun ac w h => ?_, ?_⟩
            · have e17 : ac.tmps.getD 17 undef = Value.bool true := h.dep 17 (by kernel_rfl)
              have e22 : ac.tmps.getD 22 undef = Value.pointer (some ⟨M2, 0, none⟩) := h.dep 22 (by kernel_rfl)
              have hb2 := HG0.out.2.2.grown h.base (by simp)
              have m0 := hb2.cell (i := 0) rfl
              refine ⟨Value.string s', w, wants_some (d := 17) rfl rfl (by rw [h.size]; show 17 < 34; decide) e17, ?_, gb_refl _ _, rfl⟩
              clear h
              simp only [execOp, Act.eval, e22]
              go_simp
            refine ⟨Fg.vT rfl (by decide) fun ac w h => ?_, ?_⟩
            · have e17 : ac.tmps.getD 17 undef = Value.bool true := h.dep 17 (by kernel_rfl)
              have e20 : ac.tmps.getD 20 undef = Value.string s := h.dep 20 (by kernel_rfl)
              have e23 : ac.tmps.getD 23 undef = Value.string s' := h.dep 23 (by kernel_rfl)
              have hz := HZ.out
              refine ⟨.bool false, w, wants_some (d := 17) rfl rfl (by rw [h.size]; show 17 < 34; decide) e17, ?_, gb_refl _ _, rfl⟩
              clear h
              simp only [execOp, Act.eval, e20, e23]
              go_simp
            refine ⟨Fg.vT rfl (by decide) fun ac w h => ?_, ?_⟩
            · have e17 : ac.tmps.getD 17 undef = Value.bool true := h.dep 17 (by kernel_rfl)
              have e24 : ac.tmps.getD 24 undef = Value.bool false := h.dep 24 (by kernel_rfl)
              refine ⟨Value.bool false, w, wants_none rfl, ?_, gb_refl _ _, rfl⟩
              clear h
              simp only [execOp, Act.eval, e17, e24]
              go_simp
            refine ⟨Fg.vT rfl (by decide) fun ac w h => ?_, ?_⟩
            · have e25 : ac.tmps.getD 25 undef = Value.bool false := h.dep 25 (by kernel_rfl)
              exact ⟨_, w, wants_none rfl, Fg.run_move rfl e25, gb_refl _ _, rfl⟩
            refine ⟨Fg.sT rfl (by decide) (fun _ => rfl) fun ac w h => ?_, ?_⟩
            · have e26 : ac.tmps.getD 26 undef = Value.bool false := h.dep 26 (by kernel_rfl)
              exact not_wants (d := 26) rfl rfl (by rw [h.size]; show 26 < 34; decide) e26 (by decide)
            refine ⟨Fg.sT rfl (by decide) (fun _ => rfl) fun ac w h => ?_, ?_⟩
            · have e26 : ac.tmps.getD 26 undef = Value.bool false := h.dep 26 (by kernel_rfl)
              exact not_wants (d := 26) rfl rfl (by rw [h.size]; show 26 < 34; decide) e26 (by decide)
            refine ⟨Fg.sT rfl (by decide) (fun _ => rfl) fun ac w h => ?_, ?_⟩
            · have e26 : ac.tmps.getD 26 undef = Value.bool false := h.dep 26 (by kernel_rfl)
              exact not_wants (d := 26) rfl rfl (by rw [h.size]; show 26 < 34; decide) e26 (by decide)
            refine ⟨Fg.sT rfl (by decide) (fun _ => rfl) fun ac w h => ?_, ?_⟩
            · have e26 : ac.tmps.getD 26 undef = Value.bool false := h.dep 26 (by kernel_rfl)
              exact not_wants (d := 26) rfl rfl (by rw [h.size]; show 26 < 34; decide) e26 (by decide)
            refine ⟨Fg.sT rfl (by decide) (fun _ => rfl) fun ac w h => ?_, ?_⟩
            · have e26 : ac.tmps.getD 26 undef = Value.bool false := h.dep 26 (by kernel_rfl)
              exact not_wants (d := 26) rfl rfl (by rw [h.size]; show 26 < 34; decide) e26 (by decide)
            refine ⟨Fg.sT rfl (by decide) (fun _ => rfl) fun ac w h => ?_, ?_⟩
            · have e26 : ac.tmps.getD 26 undef = Value.bool false := h.dep 26 (by kernel_rfl)
              exact not_wants (d := 26) rfl rfl (by rw [h.size]; show 26 < 34; decide) e26 (by decide)
            refine ⟨Fg.vT rfl (by decide) fun ac w h => ?_, ?_⟩
            · have e26 : ac.tmps.getD 26 undef = Value.bool false := h.dep 26 (by kernel_rfl)
              refine ⟨Value.bool false, w, wants_none rfl, ?_, gb_refl _ _, rfl⟩
              clear h
              simp only [execOp, Act.eval, e26]
              go_simp
            refine ⟨Fg.vT rfl (by decide) fun ac w h => ?_, ?_⟩
            · have e33 : ac.tmps.getD 33 undef = Value.bool false := h.dep 33 (by kernel_rfl)
              exact ⟨_, w, wants_none rfl, Fg.run_assign rfl e33, gb_refl _ _, rfl⟩
            trivial
          · intro aq wq hB hsz hdf hrest hslots hpt
            obtain ⟨u0, e0⟩ : ∃ u, aq.tmps.getD 0 undef = u := ⟨_, rfl⟩
            obtain ⟨u1, e1⟩ : ∃ u, aq.tmps.getD 1 undef = u := ⟨_, rfl⟩
            obtain ⟨u2, e2⟩ : ∃ u, aq.tmps.getD 2 undef = u := ⟨_, rfl⟩
            obtain ⟨u3, e3⟩ : ∃ u, aq.tmps.getD 3 undef = u := ⟨_, rfl⟩
            have e4 : aq.tmps.getD 4 undef = Value.bool false := hslots 4 (by kernel_rfl)
            obtain ⟨u5, e5⟩ : ∃ u, aq.tmps.getD 5 undef = u := ⟨_, rfl⟩
            obtain ⟨u6, e6⟩ : ∃ u, aq.tmps.getD 6 undef = u := ⟨_, rfl⟩
            obtain ⟨u7, e7⟩ : ∃ u, aq.tmps.getD 7 undef = u := ⟨_, rfl⟩
            obtain ⟨u8, e8⟩ : ∃ u, aq.tmps.getD 8 undef = u := ⟨_, rfl⟩
            obtain ⟨u9, e9⟩ : ∃ u, aq.tmps.getD 9 undef = u := ⟨_, rfl⟩
            obtain ⟨u10, e10⟩ : ∃ u, aq.tmps.getD 10 undef = u := ⟨_, rfl⟩
            obtain ⟨u11, e11⟩ : ∃ u, aq.tmps.getD 11 undef = u := ⟨_, rfl⟩
            obtain ⟨u12, e12⟩ : ∃ u, aq.tmps.getD 12 undef = u := ⟨_, rfl⟩
            obtain ⟨u13, e13⟩ : ∃ u, aq.tmps.getD 13 undef = u := ⟨_, rfl⟩
            obtain ⟨u14, e14⟩ : ∃ u, aq.tmps.getD 14 undef = u := ⟨_, rfl⟩
            obtain ⟨u15, e15⟩ : ∃ u, aq.tmps.getD 15 undef = u := ⟨_, rfl⟩
            obtain ⟨u16, e16⟩ : ∃ u, aq.tmps.getD 16 undef = u := ⟨_, rfl⟩
            obtain ⟨u17, e17⟩ : ∃ u, aq.tmps.getD 17 undef = u := ⟨_, rfl⟩
            obtain ⟨u18, e18⟩ : ∃ u, aq.tmps.getD 18 undef = u := ⟨_, rfl⟩
            obtain ⟨u19, e19⟩ : ∃ u, aq.tmps.getD 19 undef = u := ⟨_, rfl⟩
            obtain ⟨u20, e20⟩ : ∃ u, aq.tmps.getD 20 undef = u := ⟨_, rfl⟩
            obtain ⟨u21, e21⟩ : ∃ u, aq.tmps.getD 21 undef = u := ⟨_, rfl⟩
            obtain ⟨u22, e22⟩ : ∃ u, aq.tmps.getD 22 undef = u := ⟨_, rfl⟩
            obtain ⟨u23, e23⟩ : ∃ u, aq.tmps.getD 23 undef = u := ⟨_, rfl⟩
            obtain ⟨u24, e24⟩ : ∃ u, aq.tmps.getD 24 undef = u := ⟨_, rfl⟩
            obtain ⟨u25, e25⟩ : ∃ u, aq.tmps.getD 25 undef = u := ⟨_, rfl⟩
            obtain ⟨u26, e26⟩ : ∃ u, aq.tmps.getD 26 undef = u := ⟨_, rfl⟩
            obtain ⟨u27, e27⟩ : ∃ u, aq.tmps.getD 27 undef = u := ⟨_, rfl⟩
            obtain ⟨u28, e28⟩ : ∃ u, aq.tmps.getD 28 undef = u := ⟨_, rfl⟩
            obtain ⟨u29, e29⟩ : ∃ u, aq.tmps.getD 29 undef = u := ⟨_, rfl⟩
            obtain ⟨u30, e30⟩ : ∃ u, aq.tmps.getD 30 undef = u := ⟨_, rfl⟩
            obtain ⟨u31, e31⟩ : ∃ u, aq.tmps.getD 31 undef = u := ⟨_, rfl⟩
            obtain ⟨u32, e32⟩ : ∃ u, aq.tmps.getD 32 undef = u := ⟨_, rfl⟩
            obtain ⟨u33, e33⟩ : ∃ u, aq.tmps.getD 33 undef = u := ⟨_, rfl⟩
            obtain rfl := Fg.frame_is (a := aq) (vs := [u0, u1, u2, u3, Value.bool false, u5, u6, u7, u8, u9, u10, u11, u12, u13, u14, u15, u16, u17, u18, u19, u20, u21, u22, u23, u24, u25, u26, u27, u28, u29, u30, u31, u32, u33]) hsz ⟨e0, e1, e2, e3, e4, e5, e6, e7, e8, e9, e10, e11, e12, e13, e14, e15, e16, e17, e18, e19, e20, e21, e22, e23, e24, e25, e26, e27, e28, e29, e30, e31, e32, e33, trivial⟩ hdf
            clear hsz hdf hrest hslots hpt e0 e1 e2 e3 e4 e5 e6 e7 e8 e9 e10 e11 e12 e13 e14 e15 e16 e17 e18 e19 e20 e21 e22 e23 e24 e25 e26 e27 e28 e29 e30 e31 e32 e33
            have HR := Lib.hid (gb_trans HG0.out.1 hB)
            clear hB
            refine wpList_nil ?_
            go_wp2
            go_ret
            exact ⟨by rw [HO.out]; rfl, HR.out⟩
        | true =>
          refine Fg.region_t [] [.any, .any, .any, .any, .val (Value.bool t), .any, .any, .any, .any, .any, .any, .val (vV s cl sq a1 n1 c1 g a2 n2 c2 a3 n3 c3), .val (Value.bool true), .val (Value.bool true), .val (vV s' cl' sq' a1' n1' c1' g' a2' n2' c2' a3' n3' c3'), .val (Value.bool true), .val (Value.bool true), .val (Value.bool true), .val (Value.pointer (some ⟨M1, 0, none⟩)), .val (Value.pointer (some ⟨M1, 0, none⟩)), .val (Value.string s), .val (Value.pointer (some ⟨M2, 0, none⟩)), .val (Value.pointer (some ⟨M2, 0, none⟩)), .val (Value.string s'), .val (Value.bool true), .val (Value.bool true), .val (Value.bool true), .val (Value.pointer (some ⟨M1, 0, none⟩)), .val (Value.pointer (some ⟨M1, 3, none⟩)), .val (Value.slice a1 n1 c1), .val (vV s' cl' sq' a1' n1' c1' g' a2' n2' c2' a3' n3' c3'), .val (Value.agg #[iV cl', iV sq']), .val (Value.bool t), .val (Value.bool t)] W0 24 (gb_refl _ _) (by kernel_rfl) (by kernel_rfl) (by kernel_rfl) (by kernel_rfl) (by decide) (by kernel_rfl) ?_ ?_
          · refine ⟨Fg.vT rfl (by decide) fun ac w h => ?_, ?_⟩
            · have e5 : ac.tmps.getD 5 undef = Value.pointer (some ⟨M1, 0, none⟩) := h.rest 5 (by kernel_rfl)
              have hb1 := HG0.out.2.1.grown h.base (by simp)
              have m0 := hb1.cell (i := 0) rfl
              have m1 := hb1.cell (i := 1) rfl
              have m2 := hb1.cell (i := 2) rfl
              have m3 := hb1.cell (i := 3) rfl
              have m4 := hb1.cell (i := 4) rfl
              have m5 := hb1.cell (i := 5) rfl
              have m6 := hb1.cell (i := 6) rfl
              refine ⟨vV s cl sq a1 n1 c1 g a2 n2 c2 a3 n3 c3, w, wants_none rfl, ?_, gb_refl _ _, rfl⟩
              clear h
              simp only [execOp, Act.eval, e5]
              go_simp
            refine ⟨Fg.cT rfl (by decide) fun ac w h => ?_, ?_⟩
            · have e11 : ac.tmps.getD 11 undef = vV s cl sq a1 n1 c1 g a2 n2 c2 a3 n3 c3 := h.dep 11 (by kernel_rfl)
              refine ⟨34, #[vV s cl sq a1 n1 c1 g a2 n2 c2 a3 n3 c3], wants_none rfl, Fg.run_call rfl rfl (by simp only [List.map_toArray, List.map_cons, List.map_nil, Act.eval, e11]) (Fg.run_enter Try.func34 (by kernel_rfl) (by kernel_rfl)), ?_⟩
              exact (HX.out w (gb_trans HG0.out.1 h.base)).mono fun _ _ ⟨he, hg⟩ => ⟨_, he, hg, rfl⟩
            refine ⟨Fg.vT rfl (by decide) fun ac w h => ?_, ?_⟩
            · have e12 : ac.tmps.getD 12 undef = Value.bool true := h.dep 12 (by kernel_rfl)
              exact ⟨_, w, wants_none rfl, Fg.run_move rfl e12, gb_refl _ _, rfl⟩
            refine ⟨Fg.vT rfl (by decide) fun ac w h => ?_, ?_⟩
            · have e13 : ac.tmps.getD 13 undef = Value.bool true := h.dep 13 (by kernel_rfl)
              have e6 : ac.tmps.getD 6 undef = Value.pointer (some ⟨M2, 0, none⟩) := h.rest 6 (by kernel_rfl)
              have hb2 := HG0.out.2.2.grown h.base (by simp)
              have m0 := hb2.cell (i := 0) rfl
              have m1 := hb2.cell (i := 1) rfl
              have m2 := hb2.cell (i := 2) rfl
              have m3 := hb2.cell (i := 3) rfl
              have m4 := hb2.cell (i := 4) rfl
              have m5 := hb2.cell (i := 5) rfl
              have m6 := hb2.cell (i := 6) rfl
              refine ⟨vV s' cl' sq' a1' n1' c1' g' a2' n2' c2' a3' n3' c3', w, wants_some (d := 13) rfl rfl (by rw [h.size]; show 13 < 34; decide) e13, ?_, gb_refl _ _, rfl⟩
              clear h
              simp only [execOp, Act.eval, e6]
              go_simp
            refine ⟨Fg.cT rfl (by decide) fun ac w h => ?_, ?_⟩
            · have e13 : ac.tmps.getD 13 undef = Value.bool true := h.dep 13 (by kernel_rfl)
              have e14 : ac.tmps.getD 14 undef = vV s' cl' sq' a1' n1' c1' g' a2' n2' c2' a3' n3' c3' := h.dep 14 (by kernel_rfl)
              refine ⟨34, #[vV s' cl' sq' a1' n1' c1' g' a2' n2' c2' a3' n3' c3'], wants_some (d := 13) rfl rfl (by rw [h.size]; show 13 < 34; decide) e13, Fg.run_call rfl rfl (by simp only [List.map_toArray, List.map_cons, List.map_nil, Act.eval, e14]) (Fg.run_enter Try.func34 (by kernel_rfl) (by kernel_rfl)), ?_⟩
              exact (HY.out w (gb_trans HG0.out.1 h.base)).mono fun _ _ ⟨he, hg⟩ => ⟨_, he, hg, rfl⟩
            refine ⟨Fg.vT rfl (by decide) fun ac w h => ?_, ?_⟩
            · have e13 : ac.tmps.getD 13 undef = Value.bool true := h.dep 13 (by kernel_rfl)
              have e15 : ac.tmps.getD 15 undef = Value.bool true := h.dep 15 (by kernel_rfl)
              refine ⟨Value.bool true, w, wants_none rfl, ?_, gb_refl _ _, rfl⟩
              clear h
              simp only [execOp, Act.eval, e13, e15]
              go_simp
            refine ⟨Fg.vT rfl (by decide) fun ac w h => ?_, ?_⟩
            · have e16 : ac.tmps.getD 16 undef = Value.bool true := h.dep 16 (by kernel_rfl)
              exact ⟨_, w, wants_none rfl, Fg.run_move rfl e16, gb_refl _ _, rfl⟩
            refine ⟨Fg.vT rfl (by decide) fun ac w h => ?_, ?_⟩
            · have e17 : ac.tmps.getD 17 undef = Value.bool true := h.dep 17 (by kernel_rfl)
              have e5 : ac.tmps.getD 5 undef = Value.pointer (some ⟨M1, 0, none⟩) := h.rest 5 (by kernel_rfl)
              refine ⟨Value.pointer (some ⟨M1, 0, none⟩), w, wants_some (d := 17) rfl rfl (by rw [h.size]; show 17 < 34; decide) e17, ?_, gb_refl _ _, rfl⟩
              clear h
              simp only [execOp, Act.eval, e5]
              go_simp
            refine ⟨Fg.vT rfl (by decide) fun ac w h => ?_, ?_⟩
            · have e17 : ac.tmps.getD 17 undef = Value.bool true := h.dep 17 (by kernel_rfl)
              have e18 : ac.tmps.getD 18 undef = Value.pointer (some ⟨M1, 0, none⟩) := h.dep 18 (by kernel_rfl)
              refine ⟨Value.pointer (some ⟨M1, 0, none⟩), w, wants_some (d := 17) rfl rfl (by rw [h.size]; show 17 < 34; decide) e17, ?_, gb_refl _ _, rfl⟩
              clear h
              simp only [execOp, Act.eval, e18]
              go_simp
            refine ⟨Fg.vT rfl (by decide) fun ac w h => ?_, ?_⟩
            · have e17 : ac.tmps.getD 17 undef = Value.bool true := h.dep 17 (by kernel_rfl)
              have e19 : ac.tmps.getD 19 undef = Value.pointer (some ⟨M1, 0, none⟩) := h.dep 19 (by kernel_rfl)
              have hb1 := HG0.out.2.1.grown h.base (by simp)
              have m0 := hb1.cell (i := 0) rfl
              refine ⟨Value.string s, w, wants_some (d := 17) rfl rfl (by rw [h.size]; show 17 < 34; decide) e17, ?_, gb_refl _ _, rfl⟩
              clear h
              simp only [execOp, Act.eval, e19]
              go_simp
            refine ⟨Fg.vT rfl (by decide) fun ac w h => ?_, ?_⟩
            · have e17 : ac.tmps.getD 17 undef = Value.bool true := h.dep 17 (by kernel_rfl)
              have e6 : ac.tmps.getD 6 undef = Value.pointer (some ⟨M2, 0, none⟩) := h.rest 6 (by kernel_rfl)
              refine ⟨Value.pointer (some ⟨M2, 0, none⟩), w, wants_some (d := 17) rfl rfl (by rw [h.size]; show 17 < 34; decide) e17, ?_, gb_refl _ _, rfl⟩
              clear h
              simp only [execOp, Act.eval, e6]
              go_simp
            refine ⟨Fg.vT rfl (by decide) fun ac w h => ?_, ?_⟩
            · have e17 : ac.tmps.getD 17 undef = Value.bool true := h.dep 17 (by kernel_rfl)
              have e21 : ac.tmps.getD 21 undef = Value.pointer (some ⟨M2, 0, none⟩) := h.dep 21 (by kernel_rfl)
              refine ⟨Value.pointer (some ⟨M2, 0, none⟩), w, wants_some (d := 17) rfl rfl (by rw [h.size]; show 17 < 34; decide) e17, ?_, gb_refl _ _, rfl⟩
              clear h
              simp only [execOp, Act.eval, e21]
              go_simp
            refine ⟨Fg.vT rfl (by decide) fun ac w h => ?_, ?_⟩
            · have e17 : ac.tmps.getD 17 undef = Value.bool true := h.dep 17 (by kernel_rfl)
              have e22 : ac.tmps.getD 22 undef = Value.pointer (some ⟨M2, 0, none⟩) := h.dep 22 (by kernel_rfl)
              have hb2 := HG0.out.2.2.grown h.base (by simp)
              have m0 := hb2.cell (i := 0) rfl
              refine ⟨Value.string s', w, wants_some (d := 17) rfl rfl (by rw [h.size]; show 17 < 34; decide) e17, ?_, gb_refl _ _, rfl⟩
              clear h
              simp only [execOp, Act.eval, e22]
              go_simp
            refine ⟨Fg.vT rfl (by decide) fun ac w h => ?_, ?_⟩
            · have e17 : ac.tmps.getD 17 undef = Value.bool true := h.dep 17 (by kernel_rfl)
              have e20 : ac.tmps.getD 20 undef = Value.string s := h.dep 20 (by kernel_rfl)
              have e23 : ac.tmps.getD 23 undef = Value.string s' := h.dep 23 (by kernel_rfl)
              have hz := HZ.out
              refine ⟨.bool true, w, wants_some (d := 17) rfl rfl (by rw [h.size]; show 17 < 34; decide) e17, ?_, gb_refl _ _, rfl⟩
              clear h
              simp only [execOp, Act.eval, e20, e23]
              go_simp
            refine ⟨Fg.vT rfl (by decide) fun ac w h => ?_, ?_⟩
            · have e17 : ac.tmps.getD 17 undef = Value.bool true := h.dep 17 (by kernel_rfl)
              have e24 : ac.tmps.getD 24 undef = Value.bool true := h.dep 24 (by kernel_rfl)
              refine ⟨Value.bool true, w, wants_none rfl, ?_, gb_refl _ _, rfl⟩
              clear h
              simp only [execOp, Act.eval, e17, e24]
              go_simp
            refine ⟨Fg.vT rfl (by decide) fun ac w h => ?_, ?_⟩
            · have e25 : ac.tmps.getD 25 undef = Value.bool true := h.dep 25 (by kernel_rfl)
              exact ⟨_, w, wants_none rfl, Fg.run_move rfl e25, gb_refl _ _, rfl⟩
            refine ⟨Fg.vT rfl (by decide) fun ac w h => ?_, ?_⟩
            · have e26 : ac.tmps.getD 26 undef = Value.bool true := h.dep 26 (by kernel_rfl)
              have e5 : ac.tmps.getD 5 undef = Value.pointer (some ⟨M1, 0, none⟩) := h.rest 5 (by kernel_rfl)
              refine ⟨Value.pointer (some ⟨M1, 0, none⟩), w, wants_some (d := 26) rfl rfl (by rw [h.size]; show 26 < 34; decide) e26, ?_, gb_refl _ _, rfl⟩
              clear h
              simp only [execOp, Act.eval, e5]
              go_simp
            refine ⟨Fg.vT rfl (by decide) fun ac w h => ?_, ?_⟩
            · have e26 : ac.tmps.getD 26 undef = Value.bool true := h.dep 26 (by kernel_rfl)
              have e27 : ac.tmps.getD 27 undef = Value.pointer (some ⟨M1, 0, none⟩) := h.dep 27 (by kernel_rfl)
              refine ⟨Value.pointer (some ⟨M1, 3, none⟩), w, wants_some (d := 26) rfl rfl (by rw [h.size]; show 26 < 34; decide) e26, ?_, gb_refl _ _, rfl⟩
              clear h
              simp only [execOp, Act.eval, e27]
              go_simp
            refine ⟨Fg.vT rfl (by decide) fun ac w h => ?_, ?_⟩
            · have e26 : ac.tmps.getD 26 undef = Value.bool true := h.dep 26 (by kernel_rfl)
              have e28 : ac.tmps.getD 28 undef = Value.pointer (some ⟨M1, 3, none⟩) := h.dep 28 (by kernel_rfl)
              have hb1 := HG0.out.2.1.grown h.base (by simp)
              have m3 := hb1.cell (i := 3) rfl
              refine ⟨Value.slice a1 n1 c1, w, wants_some (d := 26) rfl rfl (by rw [h.size]; show 26 < 34; decide) e26, ?_, gb_refl _ _, rfl⟩
              clear h
              simp only [execOp, Act.eval, e28]
              go_simp
            refine ⟨Fg.vT rfl (by decide) fun ac w h => ?_, ?_⟩
            · have e26 : ac.tmps.getD 26 undef = Value.bool true := h.dep 26 (by kernel_rfl)
              have e6 : ac.tmps.getD 6 undef = Value.pointer (some ⟨M2, 0, none⟩) := h.rest 6 (by kernel_rfl)
              have hb2 := HG0.out.2.2.grown h.base (by simp)
              have m0 := hb2.cell (i := 0) rfl
              have m1 := hb2.cell (i := 1) rfl
              have m2 := hb2.cell (i := 2) rfl
              have m3 := hb2.cell (i := 3) rfl
              have m4 := hb2.cell (i := 4) rfl
              have m5 := hb2.cell (i := 5) rfl
              have m6 := hb2.cell (i := 6) rfl
              refine ⟨vV s' cl' sq' a1' n1' c1' g' a2' n2' c2' a3' n3' c3', w, wants_some (d := 26) rfl rfl (by rw [h.size]; show 26 < 34; decide) e26, ?_, gb_refl _ _, rfl⟩
              clear h
              simp only [execOp, Act.eval, e6]
              go_simp
            refine ⟨Fg.cT rfl (by decide) fun ac w h => ?_, ?_⟩
            · have e26 : ac.tmps.getD 26 undef = Value.bool true := h.dep 26 (by kernel_rfl)
              have e30 : ac.tmps.getD 30 undef = vV s' cl' sq' a1' n1' c1' g' a2' n2' c2' a3' n3' c3' := h.dep 30 (by kernel_rfl)
              refine ⟨37, #[vV s' cl' sq' a1' n1' c1' g' a2' n2' c2' a3' n3' c3'], wants_some (d := 26) rfl rfl (by rw [h.size]; show 26 < 34; decide) e26, Fg.run_call rfl rfl (by simp only [List.map_toArray, List.map_cons, List.map_nil, Act.eval, e30]) (Fg.run_enter Try.func37 (by kernel_rfl) (by kernel_rfl)), ?_⟩
              exact (dot_any s' cl' sq' a1' n1' c1' g' a2' n2' c2' a3' n3' c3' w).mono fun _ _ ⟨he, hg⟩ => ⟨_, he, hg, rfl⟩
            refine ⟨Fg.cT rfl (by decide) fun ac w h => ?_, ?_⟩
            · have e26 : ac.tmps.getD 26 undef = Value.bool true := h.dep 26 (by kernel_rfl)
              have e29 : ac.tmps.getD 29 undef = Value.slice a1 n1 c1 := h.dep 29 (by kernel_rfl)
              have e31 : ac.tmps.getD 31 undef = Value.agg #[iV cl', iV sq'] := h.dep 31 (by kernel_rfl)
              refine ⟨36, #[Value.slice a1 n1 c1, Value.agg #[iV cl', iV sq']], wants_some (d := 26) rfl rfl (by rw [h.size]; show 26 < 34; decide) e26, Fg.run_call rfl rfl (by simp only [List.map_toArray, List.map_cons, List.map_nil, Act.eval, e29, e31]) (Fg.run_enter Try.func36 (by kernel_rfl) (by kernel_rfl)), ?_⟩
              exact (HH.out w (gb_trans HG0.out.1 h.base)).mono fun _ _ ⟨he, hg⟩ => ⟨_, he, hg, rfl⟩
            refine ⟨Fg.vT rfl (by decide) fun ac w h => ?_, ?_⟩
            · have e26 : ac.tmps.getD 26 undef = Value.bool true := h.dep 26 (by kernel_rfl)
              have e32 : ac.tmps.getD 32 undef = Value.bool t := h.dep 32 (by kernel_rfl)
              refine ⟨Value.bool t, w, wants_none rfl, ?_, gb_refl _ _, rfl⟩
              clear h
              simp only [execOp, Act.eval, e26, e32]
              go_simp
            refine ⟨Fg.vT rfl (by decide) fun ac w h => ?_, ?_⟩
            · have e33 : ac.tmps.getD 33 undef = Value.bool t := h.dep 33 (by kernel_rfl)
              exact ⟨_, w, wants_none rfl, Fg.run_assign rfl e33, gb_refl _ _, rfl⟩
            trivial
          · intro aq wq hB hsz hdf hrest hslots hpt
            obtain ⟨u0, e0⟩ : ∃ u, aq.tmps.getD 0 undef = u := ⟨_, rfl⟩
            obtain ⟨u1, e1⟩ : ∃ u, aq.tmps.getD 1 undef = u := ⟨_, rfl⟩
            obtain ⟨u2, e2⟩ : ∃ u, aq.tmps.getD 2 undef = u := ⟨_, rfl⟩
            obtain ⟨u3, e3⟩ : ∃ u, aq.tmps.getD 3 undef = u := ⟨_, rfl⟩
            have e4 : aq.tmps.getD 4 undef = Value.bool t := hslots 4 (by kernel_rfl)
            obtain ⟨u5, e5⟩ : ∃ u, aq.tmps.getD 5 undef = u := ⟨_, rfl⟩
            obtain ⟨u6, e6⟩ : ∃ u, aq.tmps.getD 6 undef = u := ⟨_, rfl⟩
            obtain ⟨u7, e7⟩ : ∃ u, aq.tmps.getD 7 undef = u := ⟨_, rfl⟩
            obtain ⟨u8, e8⟩ : ∃ u, aq.tmps.getD 8 undef = u := ⟨_, rfl⟩
            obtain ⟨u9, e9⟩ : ∃ u, aq.tmps.getD 9 undef = u := ⟨_, rfl⟩
            obtain ⟨u10, e10⟩ : ∃ u, aq.tmps.getD 10 undef = u := ⟨_, rfl⟩
            obtain ⟨u11, e11⟩ : ∃ u, aq.tmps.getD 11 undef = u := ⟨_, rfl⟩
            obtain ⟨u12, e12⟩ : ∃ u, aq.tmps.getD 12 undef = u := ⟨_, rfl⟩
            obtain ⟨u13, e13⟩ : ∃ u, aq.tmps.getD 13 undef = u := ⟨_, rfl⟩
            obtain ⟨u14, e14⟩ : ∃ u, aq.tmps.getD 14 undef = u := ⟨_, rfl⟩
            obtain ⟨u15, e15⟩ : ∃ u, aq.tmps.getD 15 undef = u := ⟨_, rfl⟩
            obtain ⟨u16, e16⟩ : ∃ u, aq.tmps.getD 16 undef = u := ⟨_, rfl⟩
            obtain ⟨u17, e17⟩ : ∃ u, aq.tmps.getD 17 undef = u := ⟨_, rfl⟩
            obtain ⟨u18, e18⟩ : ∃ u, aq.tmps.getD 18 undef = u := ⟨_, rfl⟩
            obtain ⟨u19, e19⟩ : ∃ u, aq.tmps.getD 19 undef = u := ⟨_, rfl⟩
            obtain ⟨u20, e20⟩ : ∃ u, aq.tmps.getD 20 undef = u := ⟨_, rfl⟩
            obtain ⟨u21, e21⟩ : ∃ u, aq.tmps.getD 21 undef = u := ⟨_, rfl⟩
            obtain ⟨u22, e22⟩ : ∃ u, aq.tmps.getD 22 undef = u := ⟨_, rfl⟩
            obtain ⟨u23, e23⟩ : ∃ u, aq.tmps.getD 23 undef = u := ⟨_, rfl⟩
            obtain ⟨u24, e24⟩ : ∃ u, aq.tmps.getD 24 undef = u := ⟨_, rfl⟩
            obtain ⟨u25, e25⟩ : ∃ u, aq.tmps.getD 25 undef = u := ⟨_, rfl⟩
            obtain ⟨u26, e26⟩ : ∃ u, aq.tmps.getD 26 undef = u := ⟨_, rfl⟩
            obtain ⟨u27, e27⟩ : ∃ u, aq.tmps.getD 27 undef = u := ⟨_, rfl⟩
            obtain ⟨u28, e28⟩ : ∃ u, aq.tmps.getD 28 undef = u := ⟨_, rfl⟩
            obtain ⟨u29, e29⟩ : ∃ u, aq.tmps.getD 29 undef = u := ⟨_, rfl⟩
            obtain ⟨u30, e30⟩ : ∃ u, aq.tmps.getD 30 undef = u := ⟨_, rfl⟩
            obtain ⟨u31, e31⟩ : ∃ u, aq.tmps.getD 31 undef = u := ⟨_, rfl⟩
            obtain ⟨u32, e32⟩ : ∃ u, aq.tmps.getD 32 undef = u := ⟨_, rfl⟩
            obtain ⟨u33, e33⟩ : ∃ u, aq.tmps.getD 33 undef = u := ⟨_, rfl⟩
            obtain rfl := Fg.frame_is (a := aq) (vs := [u0, u1, u2, u3, Value.bool t, u5, u6, u7, u8, u9, u10, u11, u12, u13, u14, u15, u16, u17, u18, u19, u20, u21, u22, u23, u24, u25, u26, u27, u28, u29, u30, u31, u32, u33]) hsz ⟨e0, e1, e2, e3, e4, e5, e6, e7, e8, e9, e10, e11, e12, e13, e14, e15, e16, e17, e18, e19, e20, e21, e22, e23, e24, e25, e26, e27, e28, e29, e30, e31, e32, e33, trivial⟩ hdf
            clear hsz hdf hrest hslots hpt e0 e1 e2 e3 e4 e5 e6 e7 e8 e9 e10 e11 e12 e13 e14 e15 e16 e17 e18 e19 e20 e21 e22 e23 e24 e25 e26 e27 e28 e29 e30 e31 e32 e33
            have HR := Lib.hid (gb_trans HG0.out.1 hB)
            clear hB
            refine wpList_nil ?_
            go_wp2
            go_ret
            exact ⟨by rw [HO.out]; rfl, HR.out⟩
end Rc
end Go.Proofs.Ytohcoihdijemfaa
