/- The kit's SameRecord. (Printed by gen_rcsame.py.) -/
import Derived.Test.YtohcoihdijemfaaRcWork
import Derived.Test.YtohcoihdijemfaaSame
import Derived.Test.YtohcoihdijemfaaVeSame
namespace Go.Proofs.Ytohcoihdijemfaa
open Go.RowKit Ow Wi Ve
namespace Rc
def sameB (a b : R) : Bool := decide (a.key = b.key) && decide (a.cl = b.cl) && decide (a.sq = b.sq) && decide (a.cx = b.cx) && decide (a.gone = b.gone) && decide (a.val = b.val) && decide (a.sig = b.sig)
theorem sameB_iff (a b : R) : sameB a b = true ↔ a = b := by
  cases a; cases b
  simp only [sameB, Bool.and_eq_true, decide_eq_true_eq, R.mk.injEq]
  constructor
  · rintro ⟨⟨⟨⟨⟨⟨h1, h2⟩, h3⟩, h4⟩, h5⟩, h6⟩, h7⟩; exact ⟨h1, h2, h3, h4, h5, h6, h7⟩
  · rintro ⟨h1, h2, h3, h4, h5, h6, h7⟩; exact ⟨⟨⟨⟨⟨⟨h1, h2⟩, h3⟩, h4⟩, h5⟩, h6⟩, h7⟩
set_option maxHeartbeats 2000000 in
theorem sameRec_any (ra rb : R) (B1 B2 : Nat) (w : World) (qa qb : L) (ha : RAt w B1 qa ra) (hb : RAt w B2 qb rb) : Calls Try.prog 12 #[qa.v ra, qb.v rb] w fun e w' => e = .returned (.bool (sameB ra rb)) ∧ w.grownBy w' none := by
  have HD := Lib.hid (fun w' (hg : w.grownBy w' none) => sameDots_any B1 B2 qa.n1 qb.n1 qa.c1 qb.c1 qa.a1 qb.a1 ra.cx rb.cx w' ha.l1 hb.l1 (ha.dots.stay hg) (hb.dots.stay hg) ha.top)
  have HV := Lib.hid (fun w' (hg : w.grownBy w' none) => sameBytes_any B1 B2 qa.n2 qb.n2 qa.c2 qb.c2 qa.a2 qb.a2 ra.val rb.val w' ha.l2 hb.l2 (ha.val.stay hg) (hb.val.stay hg))
  have HS := Lib.hid (fun w' (hg : w.grownBy w' none) => sameBytes_any B1 B2 qa.n3 qb.n3 qa.c3 qb.c3 qa.a3 qb.a3 ra.sig rb.sig w' ha.l3 hb.l3 (ha.sig.stay hg) (hb.sig.stay hg))
  have hz := str_eq qa.s qb.s
  rw [ha.str, hb.str] at hz
  obtain ⟨o, ho⟩ : ∃ o, o = sameB ra rb := ⟨_, rfl⟩
  rw [← ho]
  unfold sameB at ho
  rw [← hz] at ho
  clear ha hb hz
  generalize decide (ra.cx = rb.cx) = z4 at *
  generalize decide (ra.val = rb.val) = z6 at *
  generalize decide (ra.sig = rb.sig) = z7 at *
  obtain ⟨s, a1, n1, c1, a2, n2, c2, a3, n3, c3⟩ := qa
  obtain ⟨key, cl, sq, cx, g, val, sig⟩ := ra
  obtain ⟨s', a1', n1', c1', a2', n2', c2', a3', n3', c3'⟩ := qb
  obtain ⟨key', cl', sq', cx', g', val', sig'⟩ := rb
  simp only at ho HD HV HS
  obtain ⟨z1, h1⟩ : ∃ z, (s.toList == s'.toList) = z := ⟨_, rfl⟩
  obtain ⟨z2, h2⟩ : ∃ z, (cl == cl') = z := ⟨_, rfl⟩
  obtain ⟨z3, h3⟩ : ∃ z, (sq == sq') = z := ⟨_, rfl⟩
  obtain ⟨z5, h5⟩ : ∃ z, (g == g') = z := ⟨_, rfl⟩
  rw [h1, show decide (cl = cl') = (cl == cl') from by rw [Bool.eq_iff_iff]; simp, show decide (sq = sq') = (sq == sq') from by rw [Bool.eq_iff_iff]; simp, show decide (g = g') = (g == g') from by rw [Bool.eq_iff_iff]; simp, h2, h3, h5] at ho
  have HO := Lib.hid ho; clear ho
  replace h1 := Lib.hid h1
  replace h2 := Lib.hid h2
  replace h3 := Lib.hid h3
  replace h5 := Lib.hid h5
  show Calls _ _ #[vV s cl sq a1 n1 c1 g a2 n2 c2 a3 n3 c3, vV s' cl' sq' a1' n1' c1' g' a2' n2' c2' a3' n3' c3'] w _
  obtain ⟨N, hN⟩ : ∃ N, N = w.heap.size := ⟨_, rfl⟩
  obtain ⟨M, hM⟩ : ∃ M, M = w.heap.size + 1 := ⟨_, rfl⟩
  obtain ⟨W0, hW0⟩ : ∃ W0, W0 = (w.alloc (.cells #[.string s, iV cl, iV sq, .slice a1 n1 c1, .bool g, .slice a2 n2 c2, .slice a3 n3 c3] 25)).alloc (.cells #[.string s', iV cl', iV sq', .slice a1' n1' c1', .bool g', .slice a2' n2' c2', .slice a3' n3' c3'] 25) := ⟨_, rfl⟩
  have HG : Hid (w.grownBy W0 none ∧ Blk W0 N 25 [.string s, iV cl, iV sq, .slice a1 n1 c1, .bool g, .slice a2 n2 c2, .slice a3 n3 c3] ∧ Blk W0 M 25 [.string s', iV cl', iV sq', .slice a1' n1' c1', .bool g', .slice a2' n2' c2', .slice a3' n3' c3']) := by
    refine ⟨?_, ?_, ?_⟩
    · rw [hW0]; exact gb_alloc (gb_alloc (gb_refl _ _) _) _
    · rw [hW0, hN]; exact (Blk.new _ _ _).alloc _
    · rw [hW0, hM, ← World.size_alloc]; exact Blk.new _ _ _
  have x0 := HG.out.2.1.cell (i := 0) rfl
  have y0 := HG.out.2.2.cell (i := 0) rfl
  have x1 := HG.out.2.1.cell (i := 1) rfl
  have y1 := HG.out.2.2.cell (i := 1) rfl
  have x2 := HG.out.2.1.cell (i := 2) rfl
  have y2 := HG.out.2.2.cell (i := 2) rfl
  have x3 := HG.out.2.1.cell (i := 3) rfl
  have y3 := HG.out.2.2.cell (i := 3) rfl
  have x4 := HG.out.2.1.cell (i := 4) rfl
  have y4 := HG.out.2.2.cell (i := 4) rfl
  have x5 := HG.out.2.1.cell (i := 5) rfl
  have y5 := HG.out.2.2.cell (i := 5) rfl
  have x6 := HG.out.2.1.cell (i := 6) rfl
  have y6 := HG.out.2.2.cell (i := 6) rfl
  go_enter Try.func12, Try.ntmps12
  go_upto_region 1 with fail
  rw [← hW0, ← hM, ← hN]
  clear hW0 hN hM
  cases z1 with
  | false =>
    have q := h1.out
    go_wp2
    go_ret
    exact ⟨by rw [HO.out]; simp, HG.out.1⟩
  | true =>
    have q1 := h1.out
    cases z2 with
    | false =>
      have q := h2.out
      go_wp2
      go_ret
      exact ⟨by rw [HO.out]; simp, HG.out.1⟩
    | true =>
      have q2 := h2.out
      cases z3 with
      | false =>
        have q := h3.out
        go_wp2
        go_ret
        exact ⟨by rw [HO.out]; simp, HG.out.1⟩
      | true =>
        have q3 := h3.out
        go_wp2_with fail
        refine (HD.out _ HG.out.1).mono ?_
        rintro e w4 ⟨rfl, hg⟩
        have HG4 : Hid (w.grownBy w4 none ∧ Blk w4 N 25 [.string s, iV cl, iV sq, .slice a1 n1 c1, .bool g, .slice a2 n2 c2, .slice a3 n3 c3] ∧ Blk w4 M 25 [.string s', iV cl', iV sq', .slice a1' n1' c1', .bool g', .slice a2' n2' c2', .slice a3' n3' c3']) := ⟨gb_trans HG.out.1 hg, HG.out.2.1.grown hg (by simp), HG.out.2.2.grown hg (by simp)⟩
        clear hg HG
        have HG := HG4; clear HG4
        replace x4 := HG.out.2.1.cell (i := 4) rfl
        replace y4 := HG.out.2.2.cell (i := 4) rfl
        replace x5 := HG.out.2.1.cell (i := 5) rfl
        replace y5 := HG.out.2.2.cell (i := 5) rfl
        replace x6 := HG.out.2.1.cell (i := 6) rfl
        replace y6 := HG.out.2.2.cell (i := 6) rfl
        cases z4 with
        | false =>
          go_wp2
          go_ret
          exact ⟨by rw [HO.out]; simp, HG.out.1⟩
        | true =>
          cases z5 with
          | false =>
            have q := h5.out
            go_wp2
            go_ret
            exact ⟨by rw [HO.out]; simp, HG.out.1⟩
          | true =>
            have q5 := h5.out
            go_wp2_with fail
            refine (HV.out _ HG.out.1).mono ?_
            rintro e w6 ⟨rfl, hg⟩
            have HG6 : Hid (w.grownBy w6 none ∧ Blk w6 N 25 [.string s, iV cl, iV sq, .slice a1 n1 c1, .bool g, .slice a2 n2 c2, .slice a3 n3 c3] ∧ Blk w6 M 25 [.string s', iV cl', iV sq', .slice a1' n1' c1', .bool g', .slice a2' n2' c2', .slice a3' n3' c3']) := ⟨gb_trans HG.out.1 hg, HG.out.2.1.grown hg (by simp), HG.out.2.2.grown hg (by simp)⟩
            clear hg HG
            have HG := HG6; clear HG6
            replace x6 := HG.out.2.1.cell (i := 6) rfl
            replace y6 := HG.out.2.2.cell (i := 6) rfl
            cases z6 with
            | false =>
              go_wp2
              go_ret
              exact ⟨by rw [HO.out]; simp, HG.out.1⟩
            | true =>
              go_wp2_with fail
              refine (HS.out _ HG.out.1).mono ?_
              rintro e w7 ⟨rfl, hg⟩
              have HG7 : Hid (w.grownBy w7 none ∧ Blk w7 N 25 [.string s, iV cl, iV sq, .slice a1 n1 c1, .bool g, .slice a2 n2 c2, .slice a3 n3 c3] ∧ Blk w7 M 25 [.string s', iV cl', iV sq', .slice a1' n1' c1', .bool g', .slice a2' n2' c2', .slice a3' n3' c3']) := ⟨gb_trans HG.out.1 hg, HG.out.2.1.grown hg (by simp), HG.out.2.2.grown hg (by simp)⟩
              clear hg HG
              have HG := HG7; clear HG7
              go_wp2
              go_ret
              exact ⟨by rw [HO.out]; simp, HG.out.1⟩
end Rc
end Go.Proofs.Ytohcoihdijemfaa
