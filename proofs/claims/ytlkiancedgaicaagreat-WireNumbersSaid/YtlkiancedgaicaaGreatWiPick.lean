/- The kit's Pick, told whole: the number's rest. -/
import Derived.Test.YtlkiancedgaicaaGreatPick
namespace Go.Proofs.YtlkiancedgaicaaGreat
open Go.RowKit Ow

set_option maxHeartbeats 400000 in
theorem pick_is (x n : Int) (w : World) (hn : 1 ≤ n) (hn2 : n ≤ 1000000) (hx1 : -9223372036854775808 ≤ x) (hx2 : x ≤ 9223372036854775807) :
    Calls Tryz.prog 51 #[.int .i64 x, .int .i64 n] w fun e w' => e = .returned (.int .i64 (x % n)) ∧ w' = w := by
  have hn1 : ¬ n < 1 := by omega
  by_cases h0 : 0 ≤ x
  · obtain ⟨y, hy⟩ : ∃ y, y = x % n := ⟨_, rfl⟩
    have y0 : 0 ≤ y := by rw [hy]; exact Int.emod_nonneg _ (by omega)
    have y1 : y < n := by rw [hy]; exact Int.emod_lt_of_pos _ (by omega)
    rw [← hy]
    have ey : x % n = y := hy.symm
    clear hy
    go_enter Tryz.func51, Tryz.ntmps51
    go_wp2
    go_ret
    exact ⟨rfl, rfl⟩
  · obtain ⟨y, hy⟩ : ∃ y, y = x.tmod n := ⟨_, rfl⟩
    have y0 : y ≤ 0 := by rw [hy]; have := Int.tmod_nonneg (a := -x) n (by omega); rw [Int.neg_tmod] at this; omega
    have y1 : -n < y := by rw [hy]; have := Int.tmod_lt_of_pos (-x) (show 0 < n by omega); rw [Int.neg_tmod] at this; omega
    have hxy : x % n = y % n := by
      have h1 : y + n * x.tdiv n = x := by rw [hy]; exact Int.tmod_add_mul_tdiv x n
      conv => lhs; rw [← h1]
      rw [Int.add_mul_emod_self_left]
    have ey : x.tmod n = y := hy.symm
    clear hy
    by_cases hz : y < 0
    · have hr : Hid (x % n = y + n) := by
        show x % n = y + n
        rw [hxy, ← Int.add_emod_right y n]
        exact Int.emod_eq_of_lt (by omega) (by omega)
      clear hxy
      rw [hr.out]
      go_enter Tryz.func51, Tryz.ntmps51
      go_wp2
      go_ret
      exact ⟨rfl, rfl⟩
    · have hr : Hid (x % n = y) := by
        show x % n = y
        rw [hxy]
        exact Int.emod_eq_of_lt (by omega) (by omega)
      clear hxy
      rw [hr.out]
      go_enter Tryz.func51, Tryz.ntmps51
      go_wp2
      go_ret
      exact ⟨rfl, rfl⟩
end Go.Proofs.YtlkiancedgaicaaGreat
