/- The law RecordApart (P8.4): two records of one text are the same, but for their signatures; none is over itself. (Printed by gen_rcapart.py.) -/
import Derived.Test.YtohcoihdijemfaaRcAwake
import Derived.Test.YtohcoihdijemfaaRcCopy
import Derived.Test.YtohcoihdijemfaaRcSame
import Derived.Test.YtohcoihdijemfaaRcOver
namespace Go.Proofs.Ytohcoihdijemfaa
open Go.RowKit Ow Wi Ve
namespace Rc
def _root_.Go.Proofs.Ytohcoihdijemfaa.Fg.It.rc (r : R) : Fg.It := ⟨fun v w => ∃ q : L, v = q.v r ∧ ROwn w 0 q r, fun _ _ _ ⟨q, e, h⟩ hg => ⟨q, e, h.stay hg⟩⟩
theorem cp_rc {r : R} {w : World} {f : Nat} {args : Array Value} (h : Calls Try.prog f args w (CpOut w r)) : Calls Try.prog f args w (fun e w' => ∃ v, e = .returned v ∧ w.grownBy w' none ∧ ∃ q : L, v = q.v r ∧ ROwn w' 0 q r) :=
  h.mono fun _ _ ⟨q, he, hg, ho⟩ => ⟨_, he, hg, q, rfl, ho.str, own_mono ho.dots (Nat.zero_le _), own_mono ho.val (Nat.zero_le _), own_mono ho.sig (Nat.zero_le _), ho.vb, ho.sb, ho.top⟩
theorem small_of {r : R} (h : greatB r = false) : r.cx.length ≤ 1000000 ∧ r.val.length ≤ 1000000 ∧ r.sig.length ≤ 1000000 := by
  simp only [greatB, Bool.or_eq_false_iff, decide_eq_false_iff_not] at h
  omega
theorem texts_same {a b : R} (ha : shapeB a = true) (hb : shapeB b = true) : decide (textO a = textO b) = sameB (a.bare []) (b.bare []) := by
  unfold textO
  rw [ha, hb, if_pos rfl, if_pos rfl, Bool.eq_iff_iff, decide_eq_true_iff, sameB_iff]
  exact text_inj ha hb
theorem textO_zero {a : R} : (textO a).length = 0 ↔ shapeB a = false := by
  unfold textO
  cases h : shapeB a with
  | false => simp
  | true =>
    have := text_pos a
    rw [if_pos rfl]
    constructor
    · intro h0; omega
    · intro h0; cases h0
set_option maxHeartbeats 8000000 in
set_option maxRecDepth 100000 in
theorem apart_any (ra rb : R) (B1 B2 : Nat) (w : World) (qa qb : L) (ha : RAt w B1 qa ra) (hb : RAt w B2 qb rb) : Calls Try.prog 4 #[qa.v ra, qb.v rb] w fun e w' => e = .returned (.bool true) ∧ w.grownBy w' none := by
  have HGA := Lib.hid (fun w' (hg : w.grownBy w' none) => great_any (greatB ra) ra B1 w' qa (ha.stay hg) rfl)
  have HGB := Lib.hid (fun w' (hg : w.grownBy w' none) => great_any (greatB rb) rb B2 w' qb (hb.stay hg) rfl)
  have HTA := Lib.hid (fun w' (hg : w.grownBy w' none) => rtext_any ra B1 w' qa (ha.stay hg))
  have HTB := Lib.hid (fun w' (hg : w.grownBy w' none) => rtext_any rb B2 w' qb (hb.stay hg))
  have HAA := Lib.hid (fun w' (hg : w.grownBy w' none) => rover_any ra ra B1 B1 w' qa qa (ha.stay hg) (ha.stay hg))
  have HBB := Lib.hid (fun w' (hg : w.grownBy w' none) => rover_any rb rb B2 B2 w' qb qb (hb.stay hg) (hb.stay hg))
  have HAB := Lib.hid (fun w' (hg : w.grownBy w' none) => rover_any ra rb B1 B2 w' qa qb (ha.stay hg) (hb.stay hg))
  have HBA := Lib.hid (fun w' (hg : w.grownBy w' none) => rover_any rb ra B2 B1 w' qb qa (hb.stay hg) (ha.stay hg))
  have HCA := Lib.hid (fun (hs : greatB ra = false) w' (hg : w.grownBy w' none) => cp_rc (copyRec_any ra B1 w' qa (ha.stay hg) (by have := small_of hs; rw [ha.l1, ha.l2, ha.l3] at this; exact this)))
  have HCB := Lib.hid (fun (hs : greatB rb = false) w' (hg : w.grownBy w' none) => cp_rc (copyRec_any rb B2 w' qb (hb.stay hg) (by have := small_of hs; rw [hb.l1, hb.l2, hb.l3] at this; exact this)))
  rw [over_self] at HAA HBB
  clear ha hb
  obtain ⟨s, a1, n1, c1, a2, n2, c2, a3, n3, c3⟩ := qa
  obtain ⟨s', a1', n1', c1', a2', n2', c2', a3', n3', c3'⟩ := qb
  have HVA : Hid (∀ t, (L.mk s a1 n1 c1 a2 n2 c2 a3 n3 c3).v (ra.bare t) = .agg #[.string s, iV ra.cl, iV ra.sq, .slice a1 n1 c1, .bool ra.gone, .slice a2 n2 c2, .slice a3 n3 c3]) := fun _ => rfl
  have HRA : Hid (∀ q : L, q.v ra = .agg #[.string q.s, iV ra.cl, iV ra.sq, .slice q.a1 q.n1 q.c1, .bool ra.gone, .slice q.a2 q.n2 q.c2, .slice q.a3 q.n3 q.c3]) := fun _ => rfl
  have HRB : Hid (∀ q : L, q.v rb = .agg #[.string q.s, iV rb.cl, iV rb.sq, .slice q.a1 q.n1 q.c1, .bool rb.gone, .slice q.a2 q.n2 q.c2, .slice q.a3 q.n3 q.c3]) := fun _ => rfl
  have HNA : Hid (∀ q : L, q.v (ra.bare []) = .agg #[.string q.s, iV ra.cl, iV ra.sq, .slice q.a1 q.n1 q.c1, .bool ra.gone, .slice q.a2 q.n2 q.c2, .slice q.a3 q.n3 q.c3]) := fun _ => rfl
  have HNB : Hid (∀ q : L, q.v (rb.bare []) = .agg #[.string q.s, iV rb.cl, iV rb.sq, .slice q.a1 q.n1 q.c1, .bool rb.gone, .slice q.a2 q.n2 q.c2, .slice q.a3 q.n3 q.c3]) := fun _ => rfl
  rw [HRA.out] at HGA HTA HAA HAB HBA HCA ⊢
  rw [HRB.out] at HGB HTB HBB HAB HBA HCB ⊢
  simp only at HGA HTA HAA HAB HBA HCA HGB HTB HBB HCB
  have HT := Lib.hid (And.intro (@textO_zero ra) (And.intro (@textO_zero rb) (fun h1 h2 => texts_same (a := ra) (b := rb) h1 h2)))
  have HX : Hid (∀ h, shapeB ra = h → h = false → overB ra rb = false ∧ overB rb ra = false) := fun h h1 h2 => by unfold overB; rw [h1, h2]; simp
  have HY : Hid (∀ h, shapeB rb = h → h = false → overB ra rb = false ∧ overB rb ra = false) := fun h h1 h2 => by unfold overB; rw [h1, h2]; simp
  generalize ra.cl = cl at *
  generalize ra.sq = sq at *
  generalize ra.gone = g at *
  generalize rb.cl = cl' at *
  generalize rb.sq = sq' at *
  generalize rb.gone = g' at *
  obtain ⟨N, hN⟩ : ∃ N, N = w.heap.size := ⟨_, rfl⟩
  obtain ⟨M, hM⟩ : ∃ M, M = w.heap.size + 1 := ⟨_, rfl⟩
  obtain ⟨W0, hW0⟩ : ∃ W0, W0 = (w.alloc (.cells #[.string s, iV cl, iV sq, .slice a1 n1 c1, .bool g, .slice a2 n2 c2, .slice a3 n3 c3] 25)).alloc (.cells #[.string s', iV cl', iV sq', .slice a1' n1' c1', .bool g', .slice a2' n2' c2', .slice a3' n3' c3'] 25) := ⟨_, rfl⟩
  have HG0 : Hid (w.grownBy W0 none ∧ Blk W0 N 25 [.string s, iV cl, iV sq, .slice a1 n1 c1, .bool g, .slice a2 n2 c2, .slice a3 n3 c3] ∧ Blk W0 M 25 [.string s', iV cl', iV sq', .slice a1' n1' c1', .bool g', .slice a2' n2' c2', .slice a3' n3' c3']) := by
    refine ⟨?_, ?_, ?_⟩
    · rw [hW0]; exact gb_alloc (gb_alloc (gb_refl _ _) _) _
    · rw [hW0, hN]; exact (Blk.new _ _ _).alloc _
    · rw [hW0, hM, ← World.size_alloc]; exact Blk.new _ _ _
  have x0 := HG0.out.2.1.cell (i := 0) rfl
  have y0 := HG0.out.2.2.cell (i := 0) rfl
  have x1 := HG0.out.2.1.cell (i := 1) rfl
  have y1 := HG0.out.2.2.cell (i := 1) rfl
  have x2 := HG0.out.2.1.cell (i := 2) rfl
  have y2 := HG0.out.2.2.cell (i := 2) rfl
  have x3 := HG0.out.2.1.cell (i := 3) rfl
  have y3 := HG0.out.2.2.cell (i := 3) rfl
  have x4 := HG0.out.2.1.cell (i := 4) rfl
  have y4 := HG0.out.2.2.cell (i := 4) rfl
  have x5 := HG0.out.2.1.cell (i := 5) rfl
  have y5 := HG0.out.2.2.cell (i := 5) rfl
  have x6 := HG0.out.2.1.cell (i := 6) rfl
  have y6 := HG0.out.2.2.cell (i := 6) rfl
  go_enter Try.func4, Try.ntmps4
  go_wp2_with fail
  rw [← hW0, ← hM, ← hN]
  clear hW0 hN hM
  refine (awake8_any W0).mono ?_
  rintro e w1 ⟨rfl, hg⟩
  have HG1 : Hid (w.grownBy w1 none ∧ Blk w1 N 25 [.string s, iV cl, iV sq, .slice a1 n1 c1, .bool g, .slice a2 n2 c2, .slice a3 n3 c3] ∧ Blk w1 M 25 [.string s', iV cl', iV sq', .slice a1' n1' c1', .bool g', .slice a2' n2' c2', .slice a3' n3' c3']) := ⟨gb_trans HG0.out.1 hg, HG0.out.2.1.grown hg (by simp), HG0.out.2.2.grown hg (by simp)⟩
  clear hg x0 y0 x1 y1 x2 y2 x3 y3 x4 y4 x5 y5 x6 y6
  have x0 := HG1.out.2.1.cell (i := 0) rfl
  have y0 := HG1.out.2.2.cell (i := 0) rfl
  have x1 := HG1.out.2.1.cell (i := 1) rfl
  have y1 := HG1.out.2.2.cell (i := 1) rfl
  have x2 := HG1.out.2.1.cell (i := 2) rfl
  have y2 := HG1.out.2.2.cell (i := 2) rfl
  have x3 := HG1.out.2.1.cell (i := 3) rfl
  have y3 := HG1.out.2.2.cell (i := 3) rfl
  have x4 := HG1.out.2.1.cell (i := 4) rfl
  have y4 := HG1.out.2.2.cell (i := 4) rfl
  have x5 := HG1.out.2.1.cell (i := 5) rfl
  have y5 := HG1.out.2.2.cell (i := 5) rfl
  have x6 := HG1.out.2.1.cell (i := 6) rfl
  have y6 := HG1.out.2.2.cell (i := 6) rfl
  go_wp2_with fail
  refine (HGA.out w1 HG1.out.1).mono ?_
  rintro e w2 ⟨rfl, hg⟩
  have HG2 : Hid (w.grownBy w2 none ∧ Blk w2 N 25 [.string s, iV cl, iV sq, .slice a1 n1 c1, .bool g, .slice a2 n2 c2, .slice a3 n3 c3] ∧ Blk w2 M 25 [.string s', iV cl', iV sq', .slice a1' n1' c1', .bool g', .slice a2' n2' c2', .slice a3' n3' c3']) := ⟨gb_trans HG1.out.1 hg, HG1.out.2.1.grown hg (by simp), HG1.out.2.2.grown hg (by simp)⟩
  have KHG2 := Lib.hid hg
  clear hg x0 y0 x1 y1 x2 y2 x3 y3 x4 y4 x5 y5 x6 y6
  have x0 := HG2.out.2.1.cell (i := 0) rfl
  have y0 := HG2.out.2.2.cell (i := 0) rfl
  have x1 := HG2.out.2.1.cell (i := 1) rfl
  have y1 := HG2.out.2.2.cell (i := 1) rfl
  have x2 := HG2.out.2.1.cell (i := 2) rfl
  have y2 := HG2.out.2.2.cell (i := 2) rfl
  have x3 := HG2.out.2.1.cell (i := 3) rfl
  have y3 := HG2.out.2.2.cell (i := 3) rfl
  have x4 := HG2.out.2.1.cell (i := 4) rfl
  have y4 := HG2.out.2.2.cell (i := 4) rfl
  have x5 := HG2.out.2.1.cell (i := 5) rfl
  have y5 := HG2.out.2.2.cell (i := 5) rfl
  have x6 := HG2.out.2.1.cell (i := 6) rfl
  have y6 := HG2.out.2.2.cell (i := 6) rfl
  cases hga : greatB ra with
  | true =>
    go_wp2
    go_ret
    exact ⟨rfl, HG2.out.1⟩
  | false =>
    replace HCA := Lib.hid (HCA.out hga)
    clear hga
    go_wp2_with fail
    refine (HGB.out w2 HG2.out.1).mono ?_
    rintro e w3 ⟨rfl, hg⟩
    have HG3 : Hid (w.grownBy w3 none ∧ Blk w3 N 25 [.string s, iV cl, iV sq, .slice a1 n1 c1, .bool g, .slice a2 n2 c2, .slice a3 n3 c3] ∧ Blk w3 M 25 [.string s', iV cl', iV sq', .slice a1' n1' c1', .bool g', .slice a2' n2' c2', .slice a3' n3' c3']) := ⟨gb_trans HG2.out.1 hg, HG2.out.2.1.grown hg (by simp), HG2.out.2.2.grown hg (by simp)⟩
    have KHG3 := Lib.hid hg
    clear hg x0 y0 x1 y1 x2 y2 x3 y3 x4 y4 x5 y5 x6 y6
    have x0 := HG3.out.2.1.cell (i := 0) rfl
    have y0 := HG3.out.2.2.cell (i := 0) rfl
    have x1 := HG3.out.2.1.cell (i := 1) rfl
    have y1 := HG3.out.2.2.cell (i := 1) rfl
    have x2 := HG3.out.2.1.cell (i := 2) rfl
    have y2 := HG3.out.2.2.cell (i := 2) rfl
    have x3 := HG3.out.2.1.cell (i := 3) rfl
    have y3 := HG3.out.2.2.cell (i := 3) rfl
    have x4 := HG3.out.2.1.cell (i := 4) rfl
    have y4 := HG3.out.2.2.cell (i := 4) rfl
    have x5 := HG3.out.2.1.cell (i := 5) rfl
    have y5 := HG3.out.2.2.cell (i := 5) rfl
    have x6 := HG3.out.2.1.cell (i := 6) rfl
    have y6 := HG3.out.2.2.cell (i := 6) rfl
    cases hgb : greatB rb with
    | true =>
      go_wp2
      go_ret
      exact ⟨rfl, HG3.out.1⟩
    | false =>
      replace HCB := Lib.hid (HCB.out hgb)
      clear hgb
      go_wp2_with fail
      obtain ⟨T, hT⟩ : ∃ T, T = textO ra := ⟨_, rfl⟩
      obtain ⟨U, hU⟩ : ∃ U, U = textO rb := ⟨_, rfl⟩
      rw [← hT] at HTA HT
      rw [← hU] at HTB HT
      clear hT hU x0 y0 x1 y1 x2 y2 x3 y3 x4 y4 x5 y5 x6 y6
      refine Fg.region_t [] [.any, .any, .any, .any, .any, Fg.It.by T, Fg.It.by U, .any, .any, .any, .any, .any, .any, .any, .any, .any, .any, .val (vV s cl sq a1 n1 c1 g a2 n2 c2 a3 n3 c3), Fg.It.by T, .val (vV s' cl' sq' a1' n1' c1' g' a2' n2' c2' a3' n3' c3'), Fg.It.by U] w3 6 (gb_refl _ _) (by kernel_rfl) (by kernel_rfl) (by kernel_rfl) (by kernel_rfl) (by decide) (by kernel_rfl) ?_ ?_
      · refine ⟨Fg.vT rfl (by decide) fun ac w h => ?_, ?_⟩
        · have e2 : ac.tmps.getD 2 undef = Value.pointer (some ⟨N, 0, none⟩) := h.rest 2 (by kernel_rfl)
          have m0 := (HG3.out.2.1.grown h.base (by simp)).cell (i := 0) rfl
          have m1 := (HG3.out.2.1.grown h.base (by simp)).cell (i := 1) rfl
          have m2 := (HG3.out.2.1.grown h.base (by simp)).cell (i := 2) rfl
          have m3 := (HG3.out.2.1.grown h.base (by simp)).cell (i := 3) rfl
          have m4 := (HG3.out.2.1.grown h.base (by simp)).cell (i := 4) rfl
          have m5 := (HG3.out.2.1.grown h.base (by simp)).cell (i := 5) rfl
          have m6 := (HG3.out.2.1.grown h.base (by simp)).cell (i := 6) rfl
          refine ⟨vV s cl sq a1 n1 c1 g a2 n2 c2 a3 n3 c3, w, wants_none rfl, ?_, gb_refl _ _, rfl⟩
          clear h
          simp only [execOp, Act.eval, e2]
          go_simp
        refine ⟨Fg.cT rfl (by decide) fun ac w h => ?_, ?_⟩
        · have e17 : ac.tmps.getD 17 undef = vV s cl sq a1 n1 c1 g a2 n2 c2 a3 n3 c3 := h.dep 17 (by kernel_rfl)
          refine ⟨15, #[vV s cl sq a1 n1 c1 g a2 n2 c2 a3 n3 c3], wants_none rfl, Fg.run_call rfl rfl (by simp only [List.map_toArray, List.map_cons, List.map_nil, Act.eval, e17]) (Fg.run_enter Try.func15 (by kernel_rfl) (by kernel_rfl)), ?_⟩
          exact (HTA.out w (gb_trans HG3.out.1 h.base)).mono fun _ _ ⟨_, _, he, hg, hb⟩ => ⟨_, he, hg, _, _, _, rfl, hb⟩
        refine ⟨Fg.vT rfl (by decide) fun ac w h => ?_, ?_⟩
        · have e3 : ac.tmps.getD 3 undef = Value.pointer (some ⟨M, 0, none⟩) := h.rest 3 (by kernel_rfl)
          have m0 := (HG3.out.2.2.grown h.base (by simp)).cell (i := 0) rfl
          have m1 := (HG3.out.2.2.grown h.base (by simp)).cell (i := 1) rfl
          have m2 := (HG3.out.2.2.grown h.base (by simp)).cell (i := 2) rfl
          have m3 := (HG3.out.2.2.grown h.base (by simp)).cell (i := 3) rfl
          have m4 := (HG3.out.2.2.grown h.base (by simp)).cell (i := 4) rfl
          have m5 := (HG3.out.2.2.grown h.base (by simp)).cell (i := 5) rfl
          have m6 := (HG3.out.2.2.grown h.base (by simp)).cell (i := 6) rfl
          refine ⟨vV s' cl' sq' a1' n1' c1' g' a2' n2' c2' a3' n3' c3', w, wants_none rfl, ?_, gb_refl _ _, rfl⟩
          clear h
          simp only [execOp, Act.eval, e3]
          go_simp
        refine ⟨Fg.cT rfl (by decide) fun ac w h => ?_, ?_⟩
        · have e19 : ac.tmps.getD 19 undef = vV s' cl' sq' a1' n1' c1' g' a2' n2' c2' a3' n3' c3' := h.dep 19 (by kernel_rfl)
          refine ⟨15, #[vV s' cl' sq' a1' n1' c1' g' a2' n2' c2' a3' n3' c3'], wants_none rfl, Fg.run_call rfl rfl (by simp only [List.map_toArray, List.map_cons, List.map_nil, Act.eval, e19]) (Fg.run_enter Try.func15 (by kernel_rfl) (by kernel_rfl)), ?_⟩
          exact (HTB.out w (gb_trans HG3.out.1 h.base)).mono fun _ _ ⟨_, _, he, hg, hb⟩ => ⟨_, he, hg, _, _, _, rfl, hb⟩
        refine ⟨Fg.vT rfl (by decide) fun ac w h => ?_, ?_⟩
        · obtain ⟨a18, k18, B18, e18, b18⟩ : ∃ x c B, ac.tmps.getD 18 undef = .slice x T.length c ∧ BytesAt w B x c T := h.dep 18 (by kernel_rfl)
          exact ⟨_, w, wants_none rfl, Fg.run_assign rfl e18, gb_refl _ _, ⟨_, _, _, rfl, b18⟩⟩
        refine ⟨Fg.vT rfl (by decide) fun ac w h => ?_, ?_⟩
        · obtain ⟨a20, k20, B20, e20, b20⟩ : ∃ x c B, ac.tmps.getD 20 undef = .slice x U.length c ∧ BytesAt w B x c U := h.dep 20 (by kernel_rfl)
          exact ⟨_, w, wants_none rfl, Fg.run_assign rfl e20, gb_refl _ _, ⟨_, _, _, rfl, b20⟩⟩
        trivial
      · intro aq wq hB hsz hdf hrest hslots hpt
        obtain ⟨u0, e0⟩ : ∃ u, aq.tmps.getD 0 undef = u := ⟨_, rfl⟩
        obtain ⟨u1, e1⟩ : ∃ u, aq.tmps.getD 1 undef = u := ⟨_, rfl⟩
        obtain ⟨u4, e4⟩ : ∃ u, aq.tmps.getD 4 undef = u := ⟨_, rfl⟩
        obtain ⟨a5, k5, B5, e5, b5⟩ : ∃ x c B, aq.tmps.getD 5 undef = .slice x T.length c ∧ BytesAt wq B x c T := hslots 5 (by kernel_rfl)
        obtain ⟨a6, k6, B6, e6, b6⟩ : ∃ x c B, aq.tmps.getD 6 undef = .slice x U.length c ∧ BytesAt wq B x c U := hslots 6 (by kernel_rfl)
        obtain ⟨u9, e9⟩ : ∃ u, aq.tmps.getD 9 undef = u := ⟨_, rfl⟩
        obtain ⟨u10, e10⟩ : ∃ u, aq.tmps.getD 10 undef = u := ⟨_, rfl⟩
        obtain ⟨u11, e11⟩ : ∃ u, aq.tmps.getD 11 undef = u := ⟨_, rfl⟩
        obtain ⟨u12, e12⟩ : ∃ u, aq.tmps.getD 12 undef = u := ⟨_, rfl⟩
        obtain ⟨u13, e13⟩ : ∃ u, aq.tmps.getD 13 undef = u := ⟨_, rfl⟩
        obtain ⟨u14, e14⟩ : ∃ u, aq.tmps.getD 14 undef = u := ⟨_, rfl⟩
        obtain ⟨u15, e15⟩ : ∃ u, aq.tmps.getD 15 undef = u := ⟨_, rfl⟩
        obtain ⟨u16, e16⟩ : ∃ u, aq.tmps.getD 16 undef = u := ⟨_, rfl⟩
        obtain ⟨u17, e17⟩ : ∃ u, aq.tmps.getD 17 undef = u := ⟨_, rfl⟩
        obtain ⟨u18, e18⟩ : ∃ u, aq.tmps.getD 18 undef = u := ⟨_, rfl⟩
        obtain ⟨u19, e19⟩ : ∃ u, aq.tmps.getD 19 undef = u := ⟨_, rfl⟩
        obtain ⟨u20, e20⟩ : ∃ u, aq.tmps.getD 20 undef = u := ⟨_, rfl⟩
        obtain ⟨u21, e21⟩ : ∃ u, aq.tmps.getD 21 undef = u := ⟨_, rfl⟩
        obtain ⟨u22, e22⟩ : ∃ u, aq.tmps.getD 22 undef = u := ⟨_, rfl⟩
        obtain ⟨u23, e23⟩ : ∃ u, aq.tmps.getD 23 undef = u := ⟨_, rfl⟩
        obtain ⟨u24, e24⟩ : ∃ u, aq.tmps.getD 24 undef = u := ⟨_, rfl⟩
        obtain ⟨u25, e25⟩ : ∃ u, aq.tmps.getD 25 undef = u := ⟨_, rfl⟩
        obtain ⟨u26, e26⟩ : ∃ u, aq.tmps.getD 26 undef = u := ⟨_, rfl⟩
        obtain ⟨u27, e27⟩ : ∃ u, aq.tmps.getD 27 undef = u := ⟨_, rfl⟩
        obtain ⟨u28, e28⟩ : ∃ u, aq.tmps.getD 28 undef = u := ⟨_, rfl⟩
        obtain ⟨u29, e29⟩ : ∃ u, aq.tmps.getD 29 undef = u := ⟨_, rfl⟩
        obtain ⟨u30, e30⟩ : ∃ u, aq.tmps.getD 30 undef = u := ⟨_, rfl⟩
        obtain ⟨u31, e31⟩ : ∃ u, aq.tmps.getD 31 undef = u := ⟨_, rfl⟩
        obtain ⟨u32, e32⟩ : ∃ u, aq.tmps.getD 32 undef = u := ⟨_, rfl⟩
        obtain ⟨u33, e33⟩ : ∃ u, aq.tmps.getD 33 undef = u := ⟨_, rfl⟩
        obtain ⟨u34, e34⟩ : ∃ u, aq.tmps.getD 34 undef = u := ⟨_, rfl⟩
        obtain ⟨u35, e35⟩ : ∃ u, aq.tmps.getD 35 undef = u := ⟨_, rfl⟩
        obtain ⟨u36, e36⟩ : ∃ u, aq.tmps.getD 36 undef = u := ⟨_, rfl⟩
        obtain ⟨u37, e37⟩ : ∃ u, aq.tmps.getD 37 undef = u := ⟨_, rfl⟩
        obtain ⟨u38, e38⟩ : ∃ u, aq.tmps.getD 38 undef = u := ⟨_, rfl⟩
        obtain ⟨u39, e39⟩ : ∃ u, aq.tmps.getD 39 undef = u := ⟨_, rfl⟩
        obtain ⟨u40, e40⟩ : ∃ u, aq.tmps.getD 40 undef = u := ⟨_, rfl⟩
        obtain ⟨u41, e41⟩ : ∃ u, aq.tmps.getD 41 undef = u := ⟨_, rfl⟩
        obtain ⟨u42, e42⟩ : ∃ u, aq.tmps.getD 42 undef = u := ⟨_, rfl⟩
        obtain ⟨u43, e43⟩ : ∃ u, aq.tmps.getD 43 undef = u := ⟨_, rfl⟩
        obtain ⟨u44, e44⟩ : ∃ u, aq.tmps.getD 44 undef = u := ⟨_, rfl⟩
        obtain ⟨u45, e45⟩ : ∃ u, aq.tmps.getD 45 undef = u := ⟨_, rfl⟩
        obtain ⟨u46, e46⟩ : ∃ u, aq.tmps.getD 46 undef = u := ⟨_, rfl⟩
        obtain ⟨u47, e47⟩ : ∃ u, aq.tmps.getD 47 undef = u := ⟨_, rfl⟩
        obtain ⟨u48, e48⟩ : ∃ u, aq.tmps.getD 48 undef = u := ⟨_, rfl⟩
        obtain ⟨u49, e49⟩ : ∃ u, aq.tmps.getD 49 undef = u := ⟨_, rfl⟩
        obtain ⟨u50, e50⟩ : ∃ u, aq.tmps.getD 50 undef = u := ⟨_, rfl⟩
        obtain ⟨u51, e51⟩ : ∃ u, aq.tmps.getD 51 undef = u := ⟨_, rfl⟩
        obtain ⟨u52, e52⟩ : ∃ u, aq.tmps.getD 52 undef = u := ⟨_, rfl⟩
        obtain ⟨u53, e53⟩ : ∃ u, aq.tmps.getD 53 undef = u := ⟨_, rfl⟩
        obtain ⟨u54, e54⟩ : ∃ u, aq.tmps.getD 54 undef = u := ⟨_, rfl⟩
        obtain ⟨u55, e55⟩ : ∃ u, aq.tmps.getD 55 undef = u := ⟨_, rfl⟩
        obtain ⟨u56, e56⟩ : ∃ u, aq.tmps.getD 56 undef = u := ⟨_, rfl⟩
        obtain ⟨u57, e57⟩ : ∃ u, aq.tmps.getD 57 undef = u := ⟨_, rfl⟩
        obtain ⟨u58, e58⟩ : ∃ u, aq.tmps.getD 58 undef = u := ⟨_, rfl⟩
        obtain ⟨u59, e59⟩ : ∃ u, aq.tmps.getD 59 undef = u := ⟨_, rfl⟩
        obtain rfl := Fg.frame_is (a := aq) (vs := [u0, u1, Value.pointer (some ⟨N, 0, none⟩), Value.pointer (some ⟨M, 0, none⟩), u4, Value.slice a5 T.length k5, Value.slice a6 U.length k6, undef, undef, u9, u10, u11, u12, u13, u14, u15, u16, u17, u18, u19, u20, u21, u22, u23, u24, u25, u26, u27, u28, u29, u30, u31, u32, u33, u34, u35, u36, u37, u38, u39, u40, u41, u42, u43, u44, u45, u46, u47, u48, u49, u50, u51, u52, u53, u54, u55, u56, u57, u58, u59]) hsz ⟨e0, e1, hrest 2 (by kernel_rfl), hrest 3 (by kernel_rfl), e4, e5, e6, hrest 7 (by kernel_rfl), hrest 8 (by kernel_rfl), e9, e10, e11, e12, e13, e14, e15, e16, e17, e18, e19, e20, e21, e22, e23, e24, e25, e26, e27, e28, e29, e30, e31, e32, e33, e34, e35, e36, e37, e38, e39, e40, e41, e42, e43, e44, e45, e46, e47, e48, e49, e50, e51, e52, e53, e54, e55, e56, e57, e58, e59, trivial⟩ hdf
        clear hsz hdf hrest hslots hpt e0 e1 e4 e5 e6 e9 e10 e11 e12 e13 e14 e15 e16 e17 e18 e19 e20 e21 e22 e23 e24 e25 e26 e27 e28 e29 e30 e31 e32 e33 e34 e35 e36 e37 e38 e39 e40 e41 e42 e43 e44 e45 e46 e47 e48 e49 e50 e51 e52 e53 e54 e55 e56 e57 e58 e59
        have HG4 : Hid (w.grownBy wq none ∧ Blk wq N 25 [.string s, iV cl, iV sq, .slice a1 n1 c1, .bool g, .slice a2 n2 c2, .slice a3 n3 c3] ∧ Blk wq M 25 [.string s', iV cl', iV sq', .slice a1' n1' c1', .bool g', .slice a2' n2' c2', .slice a3' n3' c3']) := ⟨gb_trans HG3.out.1 hB, HG3.out.2.1.grown hB (by simp), HG3.out.2.2.grown hB (by simp)⟩
        have HTU := Lib.hid (And.intro b5 b6)
        clear b5 b6 hB
        refine wpList_nil ?_
        have x0 := HG4.out.2.1.cell (i := 0) rfl
        have y0 := HG4.out.2.2.cell (i := 0) rfl
        have x1 := HG4.out.2.1.cell (i := 1) rfl
        have y1 := HG4.out.2.2.cell (i := 1) rfl
        have x2 := HG4.out.2.1.cell (i := 2) rfl
        have y2 := HG4.out.2.2.cell (i := 2) rfl
        have x3 := HG4.out.2.1.cell (i := 3) rfl
        have y3 := HG4.out.2.2.cell (i := 3) rfl
        have x4 := HG4.out.2.1.cell (i := 4) rfl
        have y4 := HG4.out.2.2.cell (i := 4) rfl
        have x5 := HG4.out.2.1.cell (i := 5) rfl
        have y5 := HG4.out.2.2.cell (i := 5) rfl
        have x6 := HG4.out.2.1.cell (i := 6) rfl
        have y6 := HG4.out.2.2.cell (i := 6) rfl
        go_wp2_with fail
        refine (HAA.out wq HG4.out.1).mono ?_
        rintro e w5 ⟨rfl, hg⟩
        have HG5 : Hid (w.grownBy w5 none ∧ Blk w5 N 25 [.string s, iV cl, iV sq, .slice a1 n1 c1, .bool g, .slice a2 n2 c2, .slice a3 n3 c3] ∧ Blk w5 M 25 [.string s', iV cl', iV sq', .slice a1' n1' c1', .bool g', .slice a2' n2' c2', .slice a3' n3' c3']) := ⟨gb_trans HG4.out.1 hg, HG4.out.2.1.grown hg (by simp), HG4.out.2.2.grown hg (by simp)⟩
        have KHG5 := Lib.hid hg
        clear hg x0 y0 x1 y1 x2 y2 x3 y3 x4 y4 x5 y5 x6 y6
        have x0 := HG5.out.2.1.cell (i := 0) rfl
        have y0 := HG5.out.2.2.cell (i := 0) rfl
        have x1 := HG5.out.2.1.cell (i := 1) rfl
        have y1 := HG5.out.2.2.cell (i := 1) rfl
        have x2 := HG5.out.2.1.cell (i := 2) rfl
        have y2 := HG5.out.2.2.cell (i := 2) rfl
        have x3 := HG5.out.2.1.cell (i := 3) rfl
        have y3 := HG5.out.2.2.cell (i := 3) rfl
        have x4 := HG5.out.2.1.cell (i := 4) rfl
        have y4 := HG5.out.2.2.cell (i := 4) rfl
        have x5 := HG5.out.2.1.cell (i := 5) rfl
        have y5 := HG5.out.2.2.cell (i := 5) rfl
        have x6 := HG5.out.2.1.cell (i := 6) rfl
        have y6 := HG5.out.2.2.cell (i := 6) rfl
        go_wp2_with fail
        refine (HBB.out w5 HG5.out.1).mono ?_
        rintro e w6 ⟨rfl, hg⟩
        have HG6 : Hid (w.grownBy w6 none ∧ Blk w6 N 25 [.string s, iV cl, iV sq, .slice a1 n1 c1, .bool g, .slice a2 n2 c2, .slice a3 n3 c3] ∧ Blk w6 M 25 [.string s', iV cl', iV sq', .slice a1' n1' c1', .bool g', .slice a2' n2' c2', .slice a3' n3' c3']) := ⟨gb_trans HG5.out.1 hg, HG5.out.2.1.grown hg (by simp), HG5.out.2.2.grown hg (by simp)⟩
        have KHG6 := Lib.hid hg
        clear hg x0 y0 x1 y1 x2 y2 x3 y3 x4 y4 x5 y5 x6 y6
        have x0 := HG6.out.2.1.cell (i := 0) rfl
        have y0 := HG6.out.2.2.cell (i := 0) rfl
        have x1 := HG6.out.2.1.cell (i := 1) rfl
        have y1 := HG6.out.2.2.cell (i := 1) rfl
        have x2 := HG6.out.2.1.cell (i := 2) rfl
        have y2 := HG6.out.2.2.cell (i := 2) rfl
        have x3 := HG6.out.2.1.cell (i := 3) rfl
        have y3 := HG6.out.2.2.cell (i := 3) rfl
        have x4 := HG6.out.2.1.cell (i := 4) rfl
        have y4 := HG6.out.2.2.cell (i := 4) rfl
        have x5 := HG6.out.2.1.cell (i := 5) rfl
        have y5 := HG6.out.2.2.cell (i := 5) rfl
        have x6 := HG6.out.2.1.cell (i := 6) rfl
        have y6 := HG6.out.2.2.cell (i := 6) rfl
        by_cases hx : shapeB ra = true
        · by_cases hy : shapeB rb = true
          · have i1 : ¬ T.length = 0 := fun h => by have := HT.out.1.1 h; rw [hx] at this; cases this
            have i2 : ¬ U.length = 0 := fun h => by have := HT.out.2.1.1 h; rw [hy] at this; cases this
            have j1 : ((T.length : Int) == 0) = false := by rw [beq_eq_false_iff_ne]; omega
            have j2 : ((U.length : Int) == 0) = false := by rw [beq_eq_false_iff_ne]; omega
            have HZ := Lib.hid (HT.out.2.2 hx hy)
            clear hx hy i1 i2
            go_wp2_with fail
            clear j1 j2 x0 y0 x1 y1 x2 y2 x3 y3 x4 y4 x5 y5 x6 y6
            refine Fg.region_t [7, 8] [.any, .any, .any, .any, .any, .any, .any, .fresh 25 z7 w6.heap.size, .fresh 25 z7 w6.heap.size, .any, .any, .any, .any, .any, .any, .any, .any, .any, .any, .any, .any, .any, .any, .any, .any, .any, .any, .any, .any, .any, .any, .any, .any, .any, .any, .any, .any, .any, .any, .any, .any, .any, .any, .any, .any, .any, .any, .val (vV s cl sq a1 n1 c1 g a2 n2 c2 a3 n3 c3), .rc ra, .val (vV s' cl' sq' a1' n1' c1' g' a2' n2' c2' a3' n3' c3'), .rc rb] w6 6 (gb_refl _ _) (by kernel_rfl) (by kernel_rfl) (by kernel_rfl) (by kernel_rfl) (by decide) (by kernel_rfl) ?_ ?_
            · refine ⟨Fg.vT rfl (by decide) fun ac w h => ?_, ?_⟩
              · have e2 : ac.tmps.getD 2 undef = Value.pointer (some ⟨N, 0, none⟩) := h.rest 2 (by kernel_rfl)
                have m0 := (HG6.out.2.1.grown h.base (by simp)).cell (i := 0) rfl
                have m1 := (HG6.out.2.1.grown h.base (by simp)).cell (i := 1) rfl
                have m2 := (HG6.out.2.1.grown h.base (by simp)).cell (i := 2) rfl
                have m3 := (HG6.out.2.1.grown h.base (by simp)).cell (i := 3) rfl
                have m4 := (HG6.out.2.1.grown h.base (by simp)).cell (i := 4) rfl
                have m5 := (HG6.out.2.1.grown h.base (by simp)).cell (i := 5) rfl
                have m6 := (HG6.out.2.1.grown h.base (by simp)).cell (i := 6) rfl
                refine ⟨vV s cl sq a1 n1 c1 g a2 n2 c2 a3 n3 c3, w, wants_none rfl, ?_, gb_refl _ _, rfl⟩
                clear h
                simp only [execOp, Act.eval, e2]
                go_simp
              refine ⟨Fg.cT rfl (by decide) fun ac w h => ?_, ?_⟩
              · have e47 : ac.tmps.getD 47 undef = vV s cl sq a1 n1 c1 g a2 n2 c2 a3 n3 c3 := h.dep 47 (by kernel_rfl)
                refine ⟨17, #[vV s cl sq a1 n1 c1 g a2 n2 c2 a3 n3 c3], wants_none rfl, Fg.run_call rfl rfl (by simp only [List.map_toArray, List.map_cons, List.map_nil, Act.eval, e47]) (Fg.run_enter Try.func17 (by kernel_rfl) (by kernel_rfl)), ?_⟩
                exact (HCA.out w (gb_trans HG6.out.1 h.base)).mono fun _ _ ⟨v, he, hg, hb⟩ => ⟨v, he, hg, hb⟩
              refine ⟨Fg.vT rfl (by decide) fun ac w h => ?_, ?_⟩
              · have e3 : ac.tmps.getD 3 undef = Value.pointer (some ⟨M, 0, none⟩) := h.rest 3 (by kernel_rfl)
                have m0 := (HG6.out.2.2.grown h.base (by simp)).cell (i := 0) rfl
                have m1 := (HG6.out.2.2.grown h.base (by simp)).cell (i := 1) rfl
                have m2 := (HG6.out.2.2.grown h.base (by simp)).cell (i := 2) rfl
                have m3 := (HG6.out.2.2.grown h.base (by simp)).cell (i := 3) rfl
                have m4 := (HG6.out.2.2.grown h.base (by simp)).cell (i := 4) rfl
                have m5 := (HG6.out.2.2.grown h.base (by simp)).cell (i := 5) rfl
                have m6 := (HG6.out.2.2.grown h.base (by simp)).cell (i := 6) rfl
                refine ⟨vV s' cl' sq' a1' n1' c1' g' a2' n2' c2' a3' n3' c3', w, wants_none rfl, ?_, gb_refl _ _, rfl⟩
                clear h
                simp only [execOp, Act.eval, e3]
                go_simp
              refine ⟨Fg.cT rfl (by decide) fun ac w h => ?_, ?_⟩
              · have e49 : ac.tmps.getD 49 undef = vV s' cl' sq' a1' n1' c1' g' a2' n2' c2' a3' n3' c3' := h.dep 49 (by kernel_rfl)
                refine ⟨17, #[vV s' cl' sq' a1' n1' c1' g' a2' n2' c2' a3' n3' c3'], wants_none rfl, Fg.run_call rfl rfl (by simp only [List.map_toArray, List.map_cons, List.map_nil, Act.eval, e49]) (Fg.run_enter Try.func17 (by kernel_rfl) (by kernel_rfl)), ?_⟩
                exact (HCB.out w (gb_trans HG6.out.1 h.base)).mono fun _ _ ⟨v, he, hg, hb⟩ => ⟨v, he, hg, hb⟩
              refine ⟨Fg.aT 25 z7 rfl (by show 7 < 60; decide) rfl fun ac w h => ?_, ?_⟩
              · refine ⟨wants_none rfl, ?_⟩
                clear h
                go_simp
                rfl
              refine ⟨Fg.aT 25 z7 rfl (by show 8 < 60; decide) rfl fun ac w h => ?_, ?_⟩
              · refine ⟨wants_none rfl, ?_⟩
                clear h
                go_simp
                rfl
              trivial
            · intro ar wr hB hsz hdf hrest hslots hpt
              obtain ⟨u0, e0⟩ : ∃ u, ar.tmps.getD 0 undef = u := ⟨_, rfl⟩
              obtain ⟨u1, e1⟩ : ∃ u, ar.tmps.getD 1 undef = u := ⟨_, rfl⟩
              obtain ⟨u4, e4⟩ : ∃ u, ar.tmps.getD 4 undef = u := ⟨_, rfl⟩
              obtain ⟨N7, e7, n7, b7⟩ : ∃ N, ar.tmps.getD 7 undef = .pointer (some ⟨N, 0, none⟩) ∧ w6.heap.size ≤ N ∧ Blk wr N 25 z7 := hslots 7 (by kernel_rfl)
              obtain ⟨N8, e8, n8, b8⟩ : ∃ N, ar.tmps.getD 8 undef = .pointer (some ⟨N, 0, none⟩) ∧ w6.heap.size ≤ N ∧ Blk wr N 25 z7 := hslots 8 (by kernel_rfl)
              obtain ⟨u9, e9⟩ : ∃ u, ar.tmps.getD 9 undef = u := ⟨_, rfl⟩
              obtain ⟨u10, e10⟩ : ∃ u, ar.tmps.getD 10 undef = u := ⟨_, rfl⟩
              obtain ⟨u11, e11⟩ : ∃ u, ar.tmps.getD 11 undef = u := ⟨_, rfl⟩
              obtain ⟨u12, e12⟩ : ∃ u, ar.tmps.getD 12 undef = u := ⟨_, rfl⟩
              obtain ⟨u13, e13⟩ : ∃ u, ar.tmps.getD 13 undef = u := ⟨_, rfl⟩
              obtain ⟨u14, e14⟩ : ∃ u, ar.tmps.getD 14 undef = u := ⟨_, rfl⟩
              obtain ⟨u15, e15⟩ : ∃ u, ar.tmps.getD 15 undef = u := ⟨_, rfl⟩
              obtain ⟨u16, e16⟩ : ∃ u, ar.tmps.getD 16 undef = u := ⟨_, rfl⟩
              obtain ⟨u17, e17⟩ : ∃ u, ar.tmps.getD 17 undef = u := ⟨_, rfl⟩
              obtain ⟨u18, e18⟩ : ∃ u, ar.tmps.getD 18 undef = u := ⟨_, rfl⟩
              obtain ⟨u19, e19⟩ : ∃ u, ar.tmps.getD 19 undef = u := ⟨_, rfl⟩
              obtain ⟨u20, e20⟩ : ∃ u, ar.tmps.getD 20 undef = u := ⟨_, rfl⟩
              obtain ⟨u21, e21⟩ : ∃ u, ar.tmps.getD 21 undef = u := ⟨_, rfl⟩
              obtain ⟨u22, e22⟩ : ∃ u, ar.tmps.getD 22 undef = u := ⟨_, rfl⟩
              obtain ⟨u23, e23⟩ : ∃ u, ar.tmps.getD 23 undef = u := ⟨_, rfl⟩
              obtain ⟨u24, e24⟩ : ∃ u, ar.tmps.getD 24 undef = u := ⟨_, rfl⟩
              obtain ⟨u25, e25⟩ : ∃ u, ar.tmps.getD 25 undef = u := ⟨_, rfl⟩
              obtain ⟨u26, e26⟩ : ∃ u, ar.tmps.getD 26 undef = u := ⟨_, rfl⟩
              obtain ⟨u27, e27⟩ : ∃ u, ar.tmps.getD 27 undef = u := ⟨_, rfl⟩
              obtain ⟨u28, e28⟩ : ∃ u, ar.tmps.getD 28 undef = u := ⟨_, rfl⟩
              obtain ⟨u29, e29⟩ : ∃ u, ar.tmps.getD 29 undef = u := ⟨_, rfl⟩
              obtain ⟨u30, e30⟩ : ∃ u, ar.tmps.getD 30 undef = u := ⟨_, rfl⟩
              obtain ⟨u31, e31⟩ : ∃ u, ar.tmps.getD 31 undef = u := ⟨_, rfl⟩
              obtain ⟨u32, e32⟩ : ∃ u, ar.tmps.getD 32 undef = u := ⟨_, rfl⟩
              obtain ⟨u33, e33⟩ : ∃ u, ar.tmps.getD 33 undef = u := ⟨_, rfl⟩
              obtain ⟨u34, e34⟩ : ∃ u, ar.tmps.getD 34 undef = u := ⟨_, rfl⟩
              obtain ⟨u35, e35⟩ : ∃ u, ar.tmps.getD 35 undef = u := ⟨_, rfl⟩
              obtain ⟨u36, e36⟩ : ∃ u, ar.tmps.getD 36 undef = u := ⟨_, rfl⟩
              obtain ⟨u37, e37⟩ : ∃ u, ar.tmps.getD 37 undef = u := ⟨_, rfl⟩
              obtain ⟨u38, e38⟩ : ∃ u, ar.tmps.getD 38 undef = u := ⟨_, rfl⟩
              obtain ⟨u39, e39⟩ : ∃ u, ar.tmps.getD 39 undef = u := ⟨_, rfl⟩
              obtain ⟨u40, e40⟩ : ∃ u, ar.tmps.getD 40 undef = u := ⟨_, rfl⟩
              obtain ⟨u41, e41⟩ : ∃ u, ar.tmps.getD 41 undef = u := ⟨_, rfl⟩
              obtain ⟨u42, e42⟩ : ∃ u, ar.tmps.getD 42 undef = u := ⟨_, rfl⟩
              obtain ⟨u43, e43⟩ : ∃ u, ar.tmps.getD 43 undef = u := ⟨_, rfl⟩
              obtain ⟨u44, e44⟩ : ∃ u, ar.tmps.getD 44 undef = u := ⟨_, rfl⟩
              obtain ⟨u45, e45⟩ : ∃ u, ar.tmps.getD 45 undef = u := ⟨_, rfl⟩
              obtain ⟨u46, e46⟩ : ∃ u, ar.tmps.getD 46 undef = u := ⟨_, rfl⟩
              obtain ⟨u47, e47⟩ : ∃ u, ar.tmps.getD 47 undef = u := ⟨_, rfl⟩
              obtain ⟨q48, e48, b48⟩ : ∃ q : L, ar.tmps.getD 48 undef = q.v ra ∧ ROwn wr 0 q ra := hslots 48 (by kernel_rfl)
              obtain ⟨u49, e49⟩ : ∃ u, ar.tmps.getD 49 undef = u := ⟨_, rfl⟩
              obtain ⟨q50, e50, b50⟩ : ∃ q : L, ar.tmps.getD 50 undef = q.v rb ∧ ROwn wr 0 q rb := hslots 50 (by kernel_rfl)
              obtain ⟨u51, e51⟩ : ∃ u, ar.tmps.getD 51 undef = u := ⟨_, rfl⟩
              obtain ⟨u52, e52⟩ : ∃ u, ar.tmps.getD 52 undef = u := ⟨_, rfl⟩
              obtain ⟨u53, e53⟩ : ∃ u, ar.tmps.getD 53 undef = u := ⟨_, rfl⟩
              obtain ⟨u54, e54⟩ : ∃ u, ar.tmps.getD 54 undef = u := ⟨_, rfl⟩
              obtain ⟨u55, e55⟩ : ∃ u, ar.tmps.getD 55 undef = u := ⟨_, rfl⟩
              obtain ⟨u56, e56⟩ : ∃ u, ar.tmps.getD 56 undef = u := ⟨_, rfl⟩
              obtain ⟨u57, e57⟩ : ∃ u, ar.tmps.getD 57 undef = u := ⟨_, rfl⟩
              obtain ⟨u58, e58⟩ : ∃ u, ar.tmps.getD 58 undef = u := ⟨_, rfl⟩
              obtain ⟨u59, e59⟩ : ∃ u, ar.tmps.getD 59 undef = u := ⟨_, rfl⟩
              have n78 : N7 ≠ N8 := fun e => (hpt 7 (by simp) N7 e7).2 8 (by simp) (by decide) (by rw [e8, e])
              obtain rfl := Fg.frame_is (a := ar) (vs := [u0, u1, Value.pointer (some ⟨N, 0, none⟩), Value.pointer (some ⟨M, 0, none⟩), u4, Value.slice a5 T.length k5, Value.slice a6 U.length k6, Value.pointer (some ⟨N7, 0, none⟩), Value.pointer (some ⟨N8, 0, none⟩), u9, u10, u11, u12, u13, u14, u15, u16, u17, u18, u19, u20, u21, u22, u23, u24, u25, u26, u27, u28, u29, u30, u31, u32, u33, u34, u35, u36, u37, u38, u39, u40, u41, u42, u43, u44, u45, u46, u47, q48.v ra, u49, q50.v rb, u51, u52, u53, u54, u55, u56, u57, u58, u59]) hsz ⟨e0, e1, hrest 2 (by kernel_rfl), hrest 3 (by kernel_rfl), e4, hrest 5 (by kernel_rfl), hrest 6 (by kernel_rfl), e7, e8, e9, e10, e11, e12, e13, e14, e15, e16, e17, e18, e19, e20, e21, e22, e23, e24, e25, e26, e27, e28, e29, e30, e31, e32, e33, e34, e35, e36, e37, e38, e39, e40, e41, e42, e43, e44, e45, e46, e47, e48, e49, e50, e51, e52, e53, e54, e55, e56, e57, e58, e59, trivial⟩ hdf
              clear hsz hdf hrest hslots hpt e0 e1 e4 e7 e8 e9 e10 e11 e12 e13 e14 e15 e16 e17 e18 e19 e20 e21 e22 e23 e24 e25 e26 e27 e28 e29 e30 e31 e32 e33 e34 e35 e36 e37 e38 e39 e40 e41 e42 e43 e44 e45 e46 e47 e48 e49 e50 e51 e52 e53 e54 e55 e56 e57 e58 e59
              rw [HRA.out q48, HRB.out q50]
              obtain ⟨t, b1, m1, d1, b2, m2, d2, b3, m3, d3⟩ := q48
              obtain ⟨t', b1', m1', d1', b2', m2', d2', b3', m3', d3'⟩ := q50
              have HG7 := Lib.hid (And.intro (gb_trans HG6.out.1 hB) (And.intro (show w.heap.size ≤ N7 from Nat.le_trans HG6.out.1.size n7) (show w.heap.size ≤ N8 from Nat.le_trans HG6.out.1.size n8)))
              have HW6 := Lib.hid (And.intro hB (And.intro n7 n8))
              clear hB n7 n8
              refine Fg.wpl_skip rfl rfl (Fg.run_store (cs := [.string t, iV cl, iV sq, .slice b1 m1 d1, .bool g, .slice b2 m2 d2, .slice b3 m3 d3]) rfl rfl rfl (b7.there 0 7 (by decide)) info_recS rfl) ?_
              have hgs := gb_setCells (cs := [.string t, iV cl, iV sq, .slice b1 m1 d1, .bool g, .slice b2 m2 d2, .slice b3 m3 d3]) (gb_refl wr (some N7)) 0
              have r48 := b48.other b7 (by decide) (by decide) hgs
              have r50 := b50.other b7 (by decide) (by decide) hgs
              have c8 := b8.setCells_other (C := N7) (cs := [.string t, iV cl, iV sq, .slice b1 m1 d1, .bool g, .slice b2 m2 d2, .slice b3 m3 d3]) 0 n78
              have hgx := gb_setCells_new (cs := [.string t, iV cl, iV sq, .slice b1 m1 d1, .bool g, .slice b2 m2 d2, .slice b3 m3 d3]) HW6.out.1 HW6.out.2.1 0
              have c7 := b7.setAll (cs := [.string t, iV cl, iV sq, .slice b1 m1 d1, .bool g, .slice b2 m2 d2, .slice b3 m3 d3]) rfl
              generalize wr.setCells N7 0 [.string t, iV cl, iV sq, .slice b1 m1 d1, .bool g, .slice b2 m2 d2, .slice b3 m3 d3] = wx at *
              refine Fg.wpl_skip rfl rfl (Fg.run_store (cs := [.string t', iV cl', iV sq', .slice b1' m1' d1', .bool g', .slice b2' m2' d2', .slice b3' m3' d3']) rfl rfl rfl (c8.there 0 7 (by decide)) info_recS rfl) ?_
              have hgs2 := gb_setCells (cs := [.string t', iV cl', iV sq', .slice b1' m1' d1', .bool g', .slice b2' m2' d2', .slice b3' m3' d3']) (gb_refl wx (some N8)) 0
              have r48' := r48.other c8 (by decide) (by decide) hgs2
              have r50' := r50.other c8 (by decide) (by decide) hgs2
              have c7' := c7.setCells_other (C := N8) (cs := [.string t', iV cl', iV sq', .slice b1' m1' d1', .bool g', .slice b2' m2' d2', .slice b3' m3' d3']) 0 (fun e => n78 e.symm)
              have c8' := c8.setAll (cs := [.string t', iV cl', iV sq', .slice b1' m1' d1', .bool g', .slice b2' m2' d2', .slice b3' m3' d3']) rfl
              have hgy := gb_setCells_new (cs := [.string t', iV cl', iV sq', .slice b1' m1' d1', .bool g', .slice b2' m2' d2', .slice b3' m3' d3']) hgx HW6.out.2.2 0
              generalize wx.setCells N8 0 [.string t', iV cl', iV sq', .slice b1' m1' d1', .bool g', .slice b2' m2' d2', .slice b3' m3' d3'] = wy at *
              clear hgs hgs2 r48 r50 c8 c7 hgx b7 b8 b48 b50
              have x6 := c7'.cell (i := 6) rfl
              have f6 := c7'.free 6
              have y6 := c8'.cell (i := 6) rfl
              have g6 := c8'.free 6
              have n87 : N8 ≠ N7 := fun e => n78 e.symm
              have HC := Lib.hid (And.intro r48' (And.intro r50' (And.intro c7' (And.intro c8' hgy))))
              have HNN := Lib.hid n78
              clear r48' r50' c7' c8' hgy
              refine wpList_nil ?_
              go_wp2_with fail
              clear x6 f6 y6 g6 n87 n78
              obtain ⟨r48, r50, c7, c8, hgy⟩ := HC.out
              have q1 := gb_set (gb_refl wy (some N7)) 6 (.slice none 0 0)
              have r48 := r48.other c7 (by decide) (by decide) q1
              have r50 := r50.other c7 (by decide) (by decide) q1
              have c8 := c8.other (a := ⟨N7, 6, none⟩) (fun e => HNN.out e) (.slice none 0 0)
              have c7 := c7.set 6 (.slice none 0 0)
              have hgy := gb_set_new hgy (p := ⟨N7, 6, none⟩) HW6.out.2.1 (.slice none 0 0)
              generalize wy.setCell ⟨N7, 6, none⟩ (.slice none 0 0) = wz at *
              have q2 := gb_set (gb_refl wz (some N8)) 6 (.slice none 0 0)
              have r48 := r48.other c8 (by decide) (by decide) q2
              have r50 := r50.other c8 (by decide) (by decide) q2
              have c7 := c7.other (a := ⟨N8, 6, none⟩) (fun e => HNN.out e.symm) (.slice none 0 0)
              have c8 := c8.set 6 (.slice none 0 0)
              have hgy := gb_set_new hgy (p := ⟨N8, 6, none⟩) HW6.out.2.2 (.slice none 0 0)
              generalize wz.setCell ⟨N8, 6, none⟩ (.slice none 0 0) = w8 at *
              have HG8 : Hid (w.grownBy w8 none ∧ Blk w8 N7 25 [.string t, iV cl, iV sq, .slice b1 m1 d1, .bool g, .slice b2 m2 d2, .slice none 0 0] ∧ Blk w8 N8 25 [.string t', iV cl', iV sq', .slice b1' m1' d1', .bool g', .slice b2' m2' d2', .slice none 0 0]) := ⟨gb_trans HG6.out.1 hgy, c7, c8⟩
              obtain ⟨z, hz⟩ : ∃ z, z = decide (T = U) := ⟨_, rfl⟩
              have h46 := gb_trans (gb_trans KHG5.out KHG6.out) hgy
              have HSB : Hid (∀ w', w8.grownBy w' none → Calls Try.prog 18 #[.slice a5 T.length k5, .slice a6 U.length k6] w' fun e w'' => e = .returned (.bool z) ∧ w'.grownBy w'' none) := fun w' hg => by
                rw [hz]; exact sameBytes_any B5 B6 T.length U.length k5 k6 a5 a6 T U w' rfl rfl (HTU.out.1.stay (gb_trans h46 hg)) (HTU.out.2.stay (gb_trans h46 hg))
              have HSR : Hid (∀ w', w8.grownBy w' none → Calls Try.prog 12 #[vV t cl sq b1 m1 d1 g b2 m2 d2 none 0 0, vV t' cl' sq' b1' m1' d1' g' b2' m2' d2' none 0 0] w' fun e w'' => e = .returned (.bool z) ∧ w'.grownBy w'' none) := fun w' hg => by
                have hA := (r48.at.stay hg)
                have hB := (r50.at.stay hg)
                have hl : BytesAt w' w8.heap.size none 0 [] := ⟨hg.size, Nat.le_refl _, by decide, fun i => by simp, Or.inl rfl⟩
                have hS := sameRec_any (ra.bare []) (rb.bare []) w8.heap.size w8.heap.size w' ⟨t, b1, m1, d1, b2, m2, d2, none, 0, 0⟩ ⟨t', b1', m1', d1', b2', m2', d2', none, 0, 0⟩ ⟨hA.str, hA.l1, hA.l2, rfl, hA.dots, hA.val, hl, hA.top⟩ ⟨hB.str, hB.l1, hB.l2, rfl, hB.dots, hB.val, hl, hB.top⟩
                rw [HNA.out, HNB.out, ← HZ.out, ← hz] at hS
                exact hS
              clear r48 r50 c7 c8 hgy q1 q2 h46 HC hz
              refine Fg.region_t [] [.any, .any, .any, .any, .val (Value.bool true), .any, .any, .any, .any, .any, .any, .any, .any, .any, .any, .any, .any, .any, .any, .any, .any, .any, .any, .any, .any, .any, .any, .any, .any, .any, .any, .any, .any, .any, .any, .any, .any, .any, .any, .any, .any, .any, .any, .any, .any, .any, .any, .any, .any, .any, .any, .any, .any, .val (Value.slice a5 T.length k5), .val (Value.slice a6 U.length k6), .val (Value.bool z), .val (vV t cl sq b1 m1 d1 g b2 m2 d2 none 0 0), .val (vV t' cl' sq' b1' m1' d1' g' b2' m2' d2' none 0 0), .val (Value.bool z), .val (Value.bool true)] w8 8 (gb_refl _ _) (by kernel_rfl) (by kernel_rfl) (by kernel_rfl) (by kernel_rfl) (by decide) (by kernel_rfl) ?_ ?_
              · refine ⟨Fg.vT rfl (by decide) fun ac w h => ?_, ?_⟩
                · have e5 : ac.tmps.getD 5 undef = Value.slice a5 T.length k5 := h.rest 5 (by kernel_rfl)
                  exact ⟨_, w, wants_none rfl, Fg.run_move rfl e5, gb_refl _ _, rfl⟩
                refine ⟨Fg.vT rfl (by decide) fun ac w h => ?_, ?_⟩
                · have e6 : ac.tmps.getD 6 undef = Value.slice a6 U.length k6 := h.rest 6 (by kernel_rfl)
                  exact ⟨_, w, wants_none rfl, Fg.run_move rfl e6, gb_refl _ _, rfl⟩
                refine ⟨Fg.cT rfl (by decide) fun ac w h => ?_, ?_⟩
                · have e53 : ac.tmps.getD 53 undef = Value.slice a5 T.length k5 := h.dep 53 (by kernel_rfl)
                  have e54 : ac.tmps.getD 54 undef = Value.slice a6 U.length k6 := h.dep 54 (by kernel_rfl)
                  refine ⟨18, #[Value.slice a5 T.length k5, Value.slice a6 U.length k6], wants_none rfl, Fg.run_call rfl rfl (by simp only [List.map_toArray, List.map_cons, List.map_nil, Act.eval, e53, e54]) (Fg.run_enter Try.func18 (by kernel_rfl) (by kernel_rfl)), ?_⟩
                  exact (HSB.out w h.base).mono fun _ _ ⟨he, hg⟩ => ⟨_, he, hg, rfl⟩
                refine ⟨Fg.vT rfl (by decide) fun ac w h => ?_, ?_⟩
                · have e7 : ac.tmps.getD 7 undef = Value.pointer (some ⟨N7, 0, none⟩) := h.rest 7 (by kernel_rfl)
                  have zz0 := (HG8.out.2.1.grown h.base (by simp)).cell (i := 0) rfl
                  have zz1 := (HG8.out.2.1.grown h.base (by simp)).cell (i := 1) rfl
                  have zz2 := (HG8.out.2.1.grown h.base (by simp)).cell (i := 2) rfl
                  have zz3 := (HG8.out.2.1.grown h.base (by simp)).cell (i := 3) rfl
                  have zz4 := (HG8.out.2.1.grown h.base (by simp)).cell (i := 4) rfl
                  have zz5 := (HG8.out.2.1.grown h.base (by simp)).cell (i := 5) rfl
                  have zz6 := (HG8.out.2.1.grown h.base (by simp)).cell (i := 6) rfl
                  refine ⟨vV t cl sq b1 m1 d1 g b2 m2 d2 none 0 0, w, wants_none rfl, ?_, gb_refl _ _, rfl⟩
                  clear h
                  simp only [execOp, Act.eval, e7]
                  go_simp
                refine ⟨Fg.vT rfl (by decide) fun ac w h => ?_, ?_⟩
                · have e8 : ac.tmps.getD 8 undef = Value.pointer (some ⟨N8, 0, none⟩) := h.rest 8 (by kernel_rfl)
                  have zz0 := (HG8.out.2.2.grown h.base (by simp)).cell (i := 0) rfl
                  have zz1 := (HG8.out.2.2.grown h.base (by simp)).cell (i := 1) rfl
                  have zz2 := (HG8.out.2.2.grown h.base (by simp)).cell (i := 2) rfl
                  have zz3 := (HG8.out.2.2.grown h.base (by simp)).cell (i := 3) rfl
                  have zz4 := (HG8.out.2.2.grown h.base (by simp)).cell (i := 4) rfl
                  have zz5 := (HG8.out.2.2.grown h.base (by simp)).cell (i := 5) rfl
                  have zz6 := (HG8.out.2.2.grown h.base (by simp)).cell (i := 6) rfl
                  refine ⟨vV t' cl' sq' b1' m1' d1' g' b2' m2' d2' none 0 0, w, wants_none rfl, ?_, gb_refl _ _, rfl⟩
                  clear h
                  simp only [execOp, Act.eval, e8]
                  go_simp
                refine ⟨Fg.cT rfl (by decide) fun ac w h => ?_, ?_⟩
                · have e56 : ac.tmps.getD 56 undef = vV t cl sq b1 m1 d1 g b2 m2 d2 none 0 0 := h.dep 56 (by kernel_rfl)
                  have e57 : ac.tmps.getD 57 undef = vV t' cl' sq' b1' m1' d1' g' b2' m2' d2' none 0 0 := h.dep 57 (by kernel_rfl)
                  refine ⟨12, #[vV t cl sq b1 m1 d1 g b2 m2 d2 none 0 0, vV t' cl' sq' b1' m1' d1' g' b2' m2' d2' none 0 0], wants_none rfl, Fg.run_call rfl rfl (by simp only [List.map_toArray, List.map_cons, List.map_nil, Act.eval, e56, e57]) (Fg.run_enter Try.func12 (by kernel_rfl) (by kernel_rfl)), ?_⟩
                  exact (HSR.out w h.base).mono fun _ _ ⟨he, hg⟩ => ⟨_, he, hg, rfl⟩
                refine ⟨Fg.vT rfl (by decide) fun ac w h => ?_, ?_⟩
                · have e55 : ac.tmps.getD 55 undef = Value.bool z := h.dep 55 (by kernel_rfl)
                  have e58 : ac.tmps.getD 58 undef = Value.bool z := h.dep 58 (by kernel_rfl)
                  have hz : (z == z) = true := by cases z <;> rfl
                  refine ⟨.bool true, w, wants_none rfl, ?_, gb_refl _ _, rfl⟩
                  clear h
                  simp only [execOp, Act.eval, e55, e58]
                  go_simp
                refine ⟨Fg.vT rfl (by decide) fun ac w h => ?_, ?_⟩
                · have e59 : ac.tmps.getD 59 undef = Value.bool true := h.dep 59 (by kernel_rfl)
                  exact ⟨_, w, wants_none rfl, Fg.run_assign rfl e59, gb_refl _ _, rfl⟩
                trivial
              · intro a13 ws hB hsz hdf hrest hslots hpt
                obtain ⟨u0, e0⟩ : ∃ u, a13.tmps.getD 0 undef = u := ⟨_, rfl⟩
                obtain ⟨u1, e1⟩ : ∃ u, a13.tmps.getD 1 undef = u := ⟨_, rfl⟩
                obtain ⟨u2, e2⟩ : ∃ u, a13.tmps.getD 2 undef = u := ⟨_, rfl⟩
                obtain ⟨u3, e3⟩ : ∃ u, a13.tmps.getD 3 undef = u := ⟨_, rfl⟩
                have e4 : a13.tmps.getD 4 undef = Value.bool true := hslots 4 (by kernel_rfl)
                obtain ⟨u5, e5⟩ : ∃ u, a13.tmps.getD 5 undef = u := ⟨_, rfl⟩
                obtain ⟨u6, e6⟩ : ∃ u, a13.tmps.getD 6 undef = u := ⟨_, rfl⟩
                obtain ⟨u7, e7⟩ : ∃ u, a13.tmps.getD 7 undef = u := ⟨_, rfl⟩
                obtain ⟨u8, e8⟩ : ∃ u, a13.tmps.getD 8 undef = u := ⟨_, rfl⟩
                obtain ⟨u9, e9⟩ : ∃ u, a13.tmps.getD 9 undef = u := ⟨_, rfl⟩
                obtain ⟨u10, e10⟩ : ∃ u, a13.tmps.getD 10 undef = u := ⟨_, rfl⟩
                obtain ⟨u11, e11⟩ : ∃ u, a13.tmps.getD 11 undef = u := ⟨_, rfl⟩
                obtain ⟨u12, e12⟩ : ∃ u, a13.tmps.getD 12 undef = u := ⟨_, rfl⟩
                obtain ⟨u13, e13⟩ : ∃ u, a13.tmps.getD 13 undef = u := ⟨_, rfl⟩
                obtain ⟨u14, e14⟩ : ∃ u, a13.tmps.getD 14 undef = u := ⟨_, rfl⟩
                obtain ⟨u15, e15⟩ : ∃ u, a13.tmps.getD 15 undef = u := ⟨_, rfl⟩
                obtain ⟨u16, e16⟩ : ∃ u, a13.tmps.getD 16 undef = u := ⟨_, rfl⟩
                obtain ⟨u17, e17⟩ : ∃ u, a13.tmps.getD 17 undef = u := ⟨_, rfl⟩
                obtain ⟨u18, e18⟩ : ∃ u, a13.tmps.getD 18 undef = u := ⟨_, rfl⟩
                obtain ⟨u19, e19⟩ : ∃ u, a13.tmps.getD 19 undef = u := ⟨_, rfl⟩
                obtain ⟨u20, e20⟩ : ∃ u, a13.tmps.getD 20 undef = u := ⟨_, rfl⟩
                obtain ⟨u21, e21⟩ : ∃ u, a13.tmps.getD 21 undef = u := ⟨_, rfl⟩
                obtain ⟨u22, e22⟩ : ∃ u, a13.tmps.getD 22 undef = u := ⟨_, rfl⟩
                obtain ⟨u23, e23⟩ : ∃ u, a13.tmps.getD 23 undef = u := ⟨_, rfl⟩
                obtain ⟨u24, e24⟩ : ∃ u, a13.tmps.getD 24 undef = u := ⟨_, rfl⟩
                obtain ⟨u25, e25⟩ : ∃ u, a13.tmps.getD 25 undef = u := ⟨_, rfl⟩
                obtain ⟨u26, e26⟩ : ∃ u, a13.tmps.getD 26 undef = u := ⟨_, rfl⟩
                obtain ⟨u27, e27⟩ : ∃ u, a13.tmps.getD 27 undef = u := ⟨_, rfl⟩
                obtain ⟨u28, e28⟩ : ∃ u, a13.tmps.getD 28 undef = u := ⟨_, rfl⟩
                obtain ⟨u29, e29⟩ : ∃ u, a13.tmps.getD 29 undef = u := ⟨_, rfl⟩
                obtain ⟨u30, e30⟩ : ∃ u, a13.tmps.getD 30 undef = u := ⟨_, rfl⟩
                obtain ⟨u31, e31⟩ : ∃ u, a13.tmps.getD 31 undef = u := ⟨_, rfl⟩
                obtain ⟨u32, e32⟩ : ∃ u, a13.tmps.getD 32 undef = u := ⟨_, rfl⟩
                obtain ⟨u33, e33⟩ : ∃ u, a13.tmps.getD 33 undef = u := ⟨_, rfl⟩
                obtain ⟨u34, e34⟩ : ∃ u, a13.tmps.getD 34 undef = u := ⟨_, rfl⟩
                obtain ⟨u35, e35⟩ : ∃ u, a13.tmps.getD 35 undef = u := ⟨_, rfl⟩
                obtain ⟨u36, e36⟩ : ∃ u, a13.tmps.getD 36 undef = u := ⟨_, rfl⟩
                obtain ⟨u37, e37⟩ : ∃ u, a13.tmps.getD 37 undef = u := ⟨_, rfl⟩
                obtain ⟨u38, e38⟩ : ∃ u, a13.tmps.getD 38 undef = u := ⟨_, rfl⟩
                obtain ⟨u39, e39⟩ : ∃ u, a13.tmps.getD 39 undef = u := ⟨_, rfl⟩
                obtain ⟨u40, e40⟩ : ∃ u, a13.tmps.getD 40 undef = u := ⟨_, rfl⟩
                obtain ⟨u41, e41⟩ : ∃ u, a13.tmps.getD 41 undef = u := ⟨_, rfl⟩
                obtain ⟨u42, e42⟩ : ∃ u, a13.tmps.getD 42 undef = u := ⟨_, rfl⟩
                obtain ⟨u43, e43⟩ : ∃ u, a13.tmps.getD 43 undef = u := ⟨_, rfl⟩
                obtain ⟨u44, e44⟩ : ∃ u, a13.tmps.getD 44 undef = u := ⟨_, rfl⟩
                obtain ⟨u45, e45⟩ : ∃ u, a13.tmps.getD 45 undef = u := ⟨_, rfl⟩
                obtain ⟨u46, e46⟩ : ∃ u, a13.tmps.getD 46 undef = u := ⟨_, rfl⟩
                obtain ⟨u47, e47⟩ : ∃ u, a13.tmps.getD 47 undef = u := ⟨_, rfl⟩
                obtain ⟨u48, e48⟩ : ∃ u, a13.tmps.getD 48 undef = u := ⟨_, rfl⟩
                obtain ⟨u49, e49⟩ : ∃ u, a13.tmps.getD 49 undef = u := ⟨_, rfl⟩
                obtain ⟨u50, e50⟩ : ∃ u, a13.tmps.getD 50 undef = u := ⟨_, rfl⟩
                obtain ⟨u51, e51⟩ : ∃ u, a13.tmps.getD 51 undef = u := ⟨_, rfl⟩
                obtain ⟨u52, e52⟩ : ∃ u, a13.tmps.getD 52 undef = u := ⟨_, rfl⟩
                obtain ⟨u53, e53⟩ : ∃ u, a13.tmps.getD 53 undef = u := ⟨_, rfl⟩
                obtain ⟨u54, e54⟩ : ∃ u, a13.tmps.getD 54 undef = u := ⟨_, rfl⟩
                obtain ⟨u55, e55⟩ : ∃ u, a13.tmps.getD 55 undef = u := ⟨_, rfl⟩
                obtain ⟨u56, e56⟩ : ∃ u, a13.tmps.getD 56 undef = u := ⟨_, rfl⟩
                obtain ⟨u57, e57⟩ : ∃ u, a13.tmps.getD 57 undef = u := ⟨_, rfl⟩
                obtain ⟨u58, e58⟩ : ∃ u, a13.tmps.getD 58 undef = u := ⟨_, rfl⟩
                obtain ⟨u59, e59⟩ : ∃ u, a13.tmps.getD 59 undef = u := ⟨_, rfl⟩
                obtain rfl := Fg.frame_is (a := a13) (vs := [u0, u1, u2, u3, Value.bool true, u5, u6, u7, u8, u9, u10, u11, u12, u13, u14, u15, u16, u17, u18, u19, u20, u21, u22, u23, u24, u25, u26, u27, u28, u29, u30, u31, u32, u33, u34, u35, u36, u37, u38, u39, u40, u41, u42, u43, u44, u45, u46, u47, u48, u49, u50, u51, u52, u53, u54, u55, u56, u57, u58, u59]) hsz ⟨e0, e1, e2, e3, e4, e5, e6, e7, e8, e9, e10, e11, e12, e13, e14, e15, e16, e17, e18, e19, e20, e21, e22, e23, e24, e25, e26, e27, e28, e29, e30, e31, e32, e33, e34, e35, e36, e37, e38, e39, e40, e41, e42, e43, e44, e45, e46, e47, e48, e49, e50, e51, e52, e53, e54, e55, e56, e57, e58, e59, trivial⟩ hdf
                clear hsz hdf hrest hslots hpt e0 e1 e2 e3 e4 e5 e6 e7 e8 e9 e10 e11 e12 e13 e14 e15 e16 e17 e18 e19 e20 e21 e22 e23 e24 e25 e26 e27 e28 e29 e30 e31 e32 e33 e34 e35 e36 e37 e38 e39 e40 e41 e42 e43 e44 e45 e46 e47 e48 e49 e50 e51 e52 e53 e54 e55 e56 e57 e58 e59
                have HR := Lib.hid (gb_trans HG8.out.1 hB)
                clear hB
                refine wpList_nil ?_
                go_wp2
                go_ret
                exact ⟨rfl, HR.out⟩
          · have i1 : ¬ T.length = 0 := fun h => by have := HT.out.1.1 h; rw [hx] at this; cases this
            have i2 : U.length = 0 := HT.out.2.1.2 (by simpa using hy)
            have j1 : ((T.length : Int) == 0) = false := by rw [beq_eq_false_iff_ne]; omega
            have j2 : ((U.length : Int) == 0) = true := by rw [i2]; rfl
            have HV := Lib.hid (HY.out _ rfl (by simpa using hy))
            rw [HV.out.1] at HAB
            rw [HV.out.2] at HBA
            clear hx hy i1 i2
            go_wp2_with fail
            refine (HAB.out w6 HG6.out.1).mono ?_
            rintro e w7 ⟨rfl, hg⟩
            have HG7 : Hid (w.grownBy w7 none ∧ Blk w7 N 25 [.string s, iV cl, iV sq, .slice a1 n1 c1, .bool g, .slice a2 n2 c2, .slice a3 n3 c3] ∧ Blk w7 M 25 [.string s', iV cl', iV sq', .slice a1' n1' c1', .bool g', .slice a2' n2' c2', .slice a3' n3' c3']) := ⟨gb_trans HG6.out.1 hg, HG6.out.2.1.grown hg (by simp), HG6.out.2.2.grown hg (by simp)⟩
            have KHG7 := Lib.hid hg
            clear hg x0 y0 x1 y1 x2 y2 x3 y3 x4 y4 x5 y5 x6 y6
            have x0 := HG7.out.2.1.cell (i := 0) rfl
            have y0 := HG7.out.2.2.cell (i := 0) rfl
            have x1 := HG7.out.2.1.cell (i := 1) rfl
            have y1 := HG7.out.2.2.cell (i := 1) rfl
            have x2 := HG7.out.2.1.cell (i := 2) rfl
            have y2 := HG7.out.2.2.cell (i := 2) rfl
            have x3 := HG7.out.2.1.cell (i := 3) rfl
            have y3 := HG7.out.2.2.cell (i := 3) rfl
            have x4 := HG7.out.2.1.cell (i := 4) rfl
            have y4 := HG7.out.2.2.cell (i := 4) rfl
            have x5 := HG7.out.2.1.cell (i := 5) rfl
            have y5 := HG7.out.2.2.cell (i := 5) rfl
            have x6 := HG7.out.2.1.cell (i := 6) rfl
            have y6 := HG7.out.2.2.cell (i := 6) rfl
            go_wp2_with fail
            refine (HBA.out w7 HG7.out.1).mono ?_
            rintro e w8 ⟨rfl, hg⟩
            have HG8 : Hid (w.grownBy w8 none ∧ Blk w8 N 25 [.string s, iV cl, iV sq, .slice a1 n1 c1, .bool g, .slice a2 n2 c2, .slice a3 n3 c3] ∧ Blk w8 M 25 [.string s', iV cl', iV sq', .slice a1' n1' c1', .bool g', .slice a2' n2' c2', .slice a3' n3' c3']) := ⟨gb_trans HG7.out.1 hg, HG7.out.2.1.grown hg (by simp), HG7.out.2.2.grown hg (by simp)⟩
            have KHG8 := Lib.hid hg
            clear hg x0 y0 x1 y1 x2 y2 x3 y3 x4 y4 x5 y5 x6 y6
            have x0 := HG8.out.2.1.cell (i := 0) rfl
            have y0 := HG8.out.2.2.cell (i := 0) rfl
            have x1 := HG8.out.2.1.cell (i := 1) rfl
            have y1 := HG8.out.2.2.cell (i := 1) rfl
            have x2 := HG8.out.2.1.cell (i := 2) rfl
            have y2 := HG8.out.2.2.cell (i := 2) rfl
            have x3 := HG8.out.2.1.cell (i := 3) rfl
            have y3 := HG8.out.2.2.cell (i := 3) rfl
            have x4 := HG8.out.2.1.cell (i := 4) rfl
            have y4 := HG8.out.2.2.cell (i := 4) rfl
            have x5 := HG8.out.2.1.cell (i := 5) rfl
            have y5 := HG8.out.2.2.cell (i := 5) rfl
            have x6 := HG8.out.2.1.cell (i := 6) rfl
            have y6 := HG8.out.2.2.cell (i := 6) rfl
            go_wp2
            go_ret
            exact ⟨rfl, HG8.out.1⟩
        · have i1 : T.length = 0 := HT.out.1.2 (by simpa using hx)
          have j1 : ((T.length : Int) == 0) = true := by rw [i1]; rfl
          have HV := Lib.hid (HX.out _ rfl (by simpa using hx))
          rw [HV.out.1] at HAB
          rw [HV.out.2] at HBA
          clear hx i1
          go_wp2_with fail
          refine (HAB.out w6 HG6.out.1).mono ?_
          rintro e w7 ⟨rfl, hg⟩
          have HG7 : Hid (w.grownBy w7 none ∧ Blk w7 N 25 [.string s, iV cl, iV sq, .slice a1 n1 c1, .bool g, .slice a2 n2 c2, .slice a3 n3 c3] ∧ Blk w7 M 25 [.string s', iV cl', iV sq', .slice a1' n1' c1', .bool g', .slice a2' n2' c2', .slice a3' n3' c3']) := ⟨gb_trans HG6.out.1 hg, HG6.out.2.1.grown hg (by simp), HG6.out.2.2.grown hg (by simp)⟩
          have KHG7 := Lib.hid hg
          clear hg x0 y0 x1 y1 x2 y2 x3 y3 x4 y4 x5 y5 x6 y6
          have x0 := HG7.out.2.1.cell (i := 0) rfl
          have y0 := HG7.out.2.2.cell (i := 0) rfl
          have x1 := HG7.out.2.1.cell (i := 1) rfl
          have y1 := HG7.out.2.2.cell (i := 1) rfl
          have x2 := HG7.out.2.1.cell (i := 2) rfl
          have y2 := HG7.out.2.2.cell (i := 2) rfl
          have x3 := HG7.out.2.1.cell (i := 3) rfl
          have y3 := HG7.out.2.2.cell (i := 3) rfl
          have x4 := HG7.out.2.1.cell (i := 4) rfl
          have y4 := HG7.out.2.2.cell (i := 4) rfl
          have x5 := HG7.out.2.1.cell (i := 5) rfl
          have y5 := HG7.out.2.2.cell (i := 5) rfl
          have x6 := HG7.out.2.1.cell (i := 6) rfl
          have y6 := HG7.out.2.2.cell (i := 6) rfl
          go_wp2_with fail
          refine (HBA.out w7 HG7.out.1).mono ?_
          rintro e w8 ⟨rfl, hg⟩
          have HG8 : Hid (w.grownBy w8 none ∧ Blk w8 N 25 [.string s, iV cl, iV sq, .slice a1 n1 c1, .bool g, .slice a2 n2 c2, .slice a3 n3 c3] ∧ Blk w8 M 25 [.string s', iV cl', iV sq', .slice a1' n1' c1', .bool g', .slice a2' n2' c2', .slice a3' n3' c3']) := ⟨gb_trans HG7.out.1 hg, HG7.out.2.1.grown hg (by simp), HG7.out.2.2.grown hg (by simp)⟩
          have KHG8 := Lib.hid hg
          clear hg x0 y0 x1 y1 x2 y2 x3 y3 x4 y4 x5 y5 x6 y6
          have x0 := HG8.out.2.1.cell (i := 0) rfl
          have y0 := HG8.out.2.2.cell (i := 0) rfl
          have x1 := HG8.out.2.1.cell (i := 1) rfl
          have y1 := HG8.out.2.2.cell (i := 1) rfl
          have x2 := HG8.out.2.1.cell (i := 2) rfl
          have y2 := HG8.out.2.2.cell (i := 2) rfl
          have x3 := HG8.out.2.1.cell (i := 3) rfl
          have y3 := HG8.out.2.2.cell (i := 3) rfl
          have x4 := HG8.out.2.1.cell (i := 4) rfl
          have y4 := HG8.out.2.2.cell (i := 4) rfl
          have x5 := HG8.out.2.1.cell (i := 5) rfl
          have y5 := HG8.out.2.2.cell (i := 5) rfl
          have x6 := HG8.out.2.1.cell (i := 6) rfl
          have y6 := HG8.out.2.2.cell (i := 6) rfl
          go_wp2
          go_ret
          exact ⟨rfl, HG8.out.1⟩
end Rc
end Go.Proofs.Ytohcoihdijemfaa
