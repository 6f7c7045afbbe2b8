/- The document's reader (buttressref06): Good. -/
import Derived.Test.YtlkiancedgaicaaGreatWiRef
namespace Go.Proofs.YtlkiancedgaicaaGreat
open Go.RowKit Ow Wi
theorem ref_good (sb : Nat) (st : St) (w : World) (h : RefS w sb st) :
    Calls Tryz.prog 27 #[.pointer (some ⟨sb, 0, none⟩)] w fun e w' => e = .returned (.bool st.isSome) ∧ w' = w := by
  obtain ⟨a, n, cap, s, bad, full, hb, h1, h2, h3, hP, h4⟩ := h
  have c2 := hb.cell (i := 2) rfl
  have hs : Hid (st.isSome = !bad) := by
    show st.isSome = !bad
    rcases h4 with ⟨rfl, rfl⟩ | ⟨rfl, rfl⟩ <;> rfl
  rw [hs.out]
  clear h4 hP hb h1
  go_enter Tryz.func27, Tryz.ntmps27
  go_wp2
  go_ret
  exact ⟨rfl, rfl⟩
end Go.Proofs.YtlkiancedgaicaaGreat
