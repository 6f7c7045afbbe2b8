/- record.readDot: the next dot. -/
import Derived.Test.YtohcoihdijemfaaRcMem
import Derived.Outline
namespace Go.Proofs.Ytohcoihdijemfaa
open Go.RowKit Ow Wi Ve
namespace Rc
theorem info_dotS : (Try.prog.info? 43).map (·.size) = some 2 := by kernel_rfl
theorem info_recS : (Try.prog.info? 25).map (·.size) = some 7 := by kernel_rfl
set_option maxHeartbeats 400000 in
theorem readDot_any (rb : Nat) (st : St) (w : World) (h : RdS w rb st) :
    Calls Try.prog 47 #[.pointer (some ⟨rb, 0, none⟩)] w fun e w' => e = .returned (.agg #[iV (toI (numS st).1), iV (toI (numS (numS st).2).1)]) ∧ w.grownBy w' (some rb) ∧ RdS w' rb (numS (numS st).2).2 := by
  have hlt := h.lt
  obtain ⟨Q, hQ⟩ : ∃ Q : Ending → World → Prop, Q = fun e w' => e = .returned (.agg #[iV (toI (numS st).1), iV (toI (numS (numS st).2).1)]) ∧ w.grownBy w' (some rb) ∧ RdS w' rb (numS (numS st).2).2 := ⟨_, rfl⟩
  rw [← hQ]
  have HQ : Hid (∀ w', w.grownBy w' (some rb) → RdS w' rb (numS (numS st).2).2 → Q (.returned (.agg #[iV (toI (numS st).1), iV (toI (numS (numS st).2).1)])) w') := fun w' h1 h2 => by rw [hQ]; exact ⟨rfl, h1, h2⟩
  clear hQ
  obtain ⟨W0, hW0⟩ : ∃ W0, W0 = w.alloc (.cells #[iV 0, iV 0] 43) := ⟨_, rfl⟩
  obtain ⟨N, hN⟩ : ∃ N, N = w.heap.size := ⟨_, rfl⟩
  have hg0 : w.grownBy W0 none := by rw [hW0]; exact gb_alloc (gb_refl _ _) _
  have hb0 : Blk W0 N 43 [iV 0, iV 0] := by rw [hW0, hN]; exact Blk.new _ _ _
  have H1 := Lib.hid (number_any rb st W0 (h.stay hg0))
  have H2 := Lib.hid (fun w' (h : RdS w' rb (numS st).2) => number_any rb (numS st).2 w' h)
  have HG0 := Lib.hid (And.intro hg0 (And.intro hb0 (And.intro (show rb < N by omega) (show w.heap.size ≤ N by omega)))); clear hg0 hb0 h hlt
  go_enter Try.func47, Try.ntmps47
  go_wp2_with fail
  rw [← hW0, ← hN]
  clear hW0 hN
  refine H1.out.mono ?_
  rintro e w1 ⟨rfl, hg1, hr1⟩
  generalize toI (numS st).1 = x at *
  generalize (numS st).2 = st1 at *
  have HG1 := Lib.hid (And.intro hg1 hr1); clear hg1 hr1
  go_wp2_with fail
  refine (H2.out w1 HG1.out.2).mono ?_
  rintro e w2 ⟨rfl, hg2, hr2⟩
  have hb2 := ((HG0.out.2.1.grown HG1.out.1 (by have := HG0.out.2.2.1; simp; omega)).grown hg2 (by have := HG0.out.2.2.1; simp; omega))
  have c0 := hb2.cell (i := 0) rfl
  have c1 := hb2.cell (i := 1) rfl
  have f0 := hb2.free 0
  have f1 := hb2.free 1
  generalize toI (numS st1).1 = y at *
  have HG2 := Lib.hid (And.intro (gb_trans (gb_row HG0.out.1 _) (gb_trans HG1.out.1 hg2)) (And.intro hr2 (And.intro hb2 HG0.out.2.2.1))); clear hg2 hr2 hb2
  go_wp2
  obtain ⟨hg, hr, hb, hN⟩ := HG2.out
  have hR := (hb.set 0 (.int .i64 x)).set 1 (.int .i64 y)
  refine bodyPost_ret (v := .agg #[iV x, iV y]) (results_cell_row Try.results47 _ _ N 43 _ (0, 0) _ rfl hR Try.underlying43 rfl info_dotS) rfl ?_
  exact HQ.out _ (gb_set_new (gb_set_new hg (p := ⟨N, 0, none⟩) HG0.out.2.2.2 _) (p := ⟨N, 1, none⟩) HG0.out.2.2.2 _) ((hr.beside (gb_set (gb_refl _ (some N)) 0 _) hN).beside (gb_set (gb_refl _ (some N)) 1 _) hN)
end Rc
end Go.Proofs.Ytohcoihdijemfaa
