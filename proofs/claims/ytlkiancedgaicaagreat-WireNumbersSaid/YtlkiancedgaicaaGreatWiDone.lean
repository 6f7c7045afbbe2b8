/- A reader's Done. -/
import Derived.Test.YtlkiancedgaicaaGreatWiRead
namespace Go.Proofs.YtlkiancedgaicaaGreat
open Go.RowKit Ow Wi

theorem done_any (rb : Nat) (st : St) (w : World) (h : RdS w rb st) :
    Calls Tryz.prog 28 #[.pointer (some ⟨rb, 0, none⟩)] w fun e w' => e = .returned (.bool (decide (st = some []))) ∧ w' = w := by
  have HG := Lib.hid (wgood_any rb st w h)
  cases st with
  | none =>
    clear h
    go_enter Tryz.func28, Tryz.ntmps28
    go_wp2_with (fail)
    refine HG.out.mono ?_
    rintro e w' ⟨rfl, rfl⟩
    go_wp2
    go_ret
    exact ⟨rfl, rfl⟩
  | some l =>
    obtain ⟨a, n, cap, hb, hl, _⟩ := h
    have c0 := hb.cell (i := 0) rfl
    obtain ⟨b, hbn⟩ : ∃ b, b = ((n : Int) == 0) := ⟨_, rfl⟩
    have hd : Hid (decide (some l = some []) = b) := by
      show decide (some l = some []) = b
      rw [hbn]
      cases l with
      | nil => obtain rfl : n = 0 := hl.symm; rfl
      | cons x l => rw [decide_eq_false (by simp)]; rw [List.length_cons] at hl; symm; rw [beq_eq_false_iff_ne]; omega
    have hN : ∀ w', Calls Tryz.prog 59 #[.slice a n cap] w' fun e w2 => e = .returned (.bool b) ∧ w2 = w' := fun w' => by
      subst hbn
      go_enter Tryz.func59, Tryz.ntmps59
      go_wp2
      go_ret
      exact ⟨rfl, rfl⟩
    rw [hd.out]
    have HN := Lib.hid hN
    clear hl hbn hN
    go_enter Tryz.func28, Tryz.ntmps28
    go_wp2_with (fail)
    refine HG.out.mono ?_
    rintro e w' ⟨rfl, rfl⟩
    go_wp2_with (fail)
    refine (HN.out _).mono ?_
    rintro e w' ⟨rfl, rfl⟩
    go_wp2
    go_ret
    exact ⟨rfl, rfl⟩

end Go.Proofs.YtlkiancedgaicaaGreat
