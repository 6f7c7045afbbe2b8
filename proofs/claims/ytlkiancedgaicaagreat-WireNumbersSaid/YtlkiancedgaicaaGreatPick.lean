/- The kit's Pick. -/
import Derived.Test.YtlkiancedgaicaaGreatPart
namespace Go.Proofs.YtlkiancedgaicaaGreat
open Go.RowKit Ow

/-- what Pick answers: a number below n; the world stays -/
def SomeBelow (n : Int) (w : World) (e : Ending) (w' : World) : Prop := ∃ r : Nat, (r : Int) < n ∧ e = .returned (.int .i64 (r : Int)) ∧ w = w'
set_option maxHeartbeats 400000 in
theorem pick_any (x n : Int) (w : World) (hn : 1 ≤ n) (hn2 : n ≤ 4000) (hx1 : -9223372036854775808 ≤ x) (hx2 : x ≤ 9223372036854775807) :
    Calls Tryz.prog 51 #[.int .i64 x, .int .i64 n] w (SomeBelow n w) := by
  have hn1 : ¬ n < 1 := by omega
  by_cases h0 : 0 ≤ x
  · obtain ⟨y, hy⟩ : ∃ y, y = x % n := ⟨_, rfl⟩
    have y0 : 0 ≤ y := by rw [hy]; exact Int.emod_nonneg _ (by omega)
    have y1 : y < n := by rw [hy]; exact Int.emod_lt_of_pos _ (by omega)
    have ey : x % n = y := hy.symm
    clear hy
    go_enter Tryz.func51, Tryz.ntmps51
    go_wp2
    go_ret
    exact ⟨y.toNat, by omega, by rw [show ((y.toNat : Nat) : Int) = y by omega]; rfl, rfl⟩
  · obtain ⟨y, hy⟩ : ∃ y, y = x.tmod n := ⟨_, rfl⟩
    have y0 : y ≤ 0 := by rw [hy]; have := Int.tmod_nonneg (a := -x) n (by omega); rw [Int.neg_tmod] at this; omega
    have y1 : -n < y := by rw [hy]; have := Int.tmod_lt_of_pos (-x) (show 0 < n by omega); rw [Int.neg_tmod] at this; omega
    have ey : x.tmod n = y := hy.symm
    clear hy
    by_cases hz : y < 0
    · go_enter Tryz.func51, Tryz.ntmps51
      go_wp2
      go_ret
      exact ⟨(y + n).toNat, by omega, by rw [show (((y + n).toNat : Nat) : Int) = y + n by omega]; rfl, rfl⟩
    · go_enter Tryz.func51, Tryz.ntmps51
      go_wp2
      go_ret
      exact ⟨y.toNat, by omega, by rw [show ((y.toNat : Nat) : Int) = y by omega]; rfl, rfl⟩
end Go.Proofs.YtlkiancedgaicaaGreat
