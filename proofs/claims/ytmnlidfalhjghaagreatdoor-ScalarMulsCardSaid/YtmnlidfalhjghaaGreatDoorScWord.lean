/- scalar: mulAddWords, guess; Sub64. -/
import Derived.Test.YtmnlidfalhjghaaGreatDoorFeMul64
import Derived.Test.YtmnlidfalhjghaaGreatDoorScSpec
import Derived.Test.YtmnlidfalhjghaaGreatDoorShaMem
import Derived.WalkKit
import Derived.Lib.Hide
import Derived.WalkSpells
import Derived.WalkLawsBesides
import Derived.Outline
namespace Go.Proofs.YtmnlidfalhjghaaGreatDoor
open Go.RowKit

theorem add64c (x y c : Int) (hx0 : 0 ≤ x) (hy0 : 0 ≤ y) (hc0 : 0 ≤ c) (hc : c ≤ 1) (w : World) : (callFunc 107 #[.int .u64 x, .int .u64 y, .int .u64 c]).run Tryz.prog w =
    .ok (.value (.tuple #[.int .u64 ((x + y + c) % 18446744073709551616), .int .u64 ((x + y + c) / 18446744073709551616)])) w := by
  have h := run_add64 (P := Tryz.prog) x y c (by omega) (by omega) (by omega) (by omega) (w := w)
  rw [run_callFunc_extern Tryz.func107 (by kernel_rfl) (by kernel_rfl) (by kernel_rfl) (e := add64Entry) (by kernel_rfl), h]
  simp only [Result.andThen]
theorem sub64c (x y b : Nat) (hb : b ≤ 1) (w : World) : (callFunc 108 #[.int .u64 x, .int .u64 y, .int .u64 b]).run Tryz.prog w =
    .ok (.value (.tuple #[.int .u64 (((x + 18446744073709551616 - y - b) % 18446744073709551616 : Nat) : Int), .int .u64 ((if x < y + b then 1 else 0 : Nat) : Int)])) w := by
  rw [run_callFunc_extern Tryz.func108 (by kernel_rfl) (by kernel_rfl) (by kernel_rfl) (e := sub64Entry) (by kernel_rfl), run_sub64 x y b hb]
  rfl
theorem mw_eq (p a b : Int) (p0 : 0 ≤ p) (p1 : p ≤ 340282366920938463426481119284349108225) (a0 : 0 ≤ a) (a1 : a < 18446744073709551616) (b0 : 0 ≤ b) (b1 : b < 18446744073709551616) :
    IntKind.u64.wrap (IntKind.u64.wrap (p / 18446744073709551616 + (p % 18446744073709551616 + a) / 18446744073709551616) + ((p % 18446744073709551616 + a) % 18446744073709551616 + b) / 18446744073709551616) = (p + a + b) / 18446744073709551616 ∧
    (p % 18446744073709551616 + a + b) % 18446744073709551616 = (p + a + b) % 18446744073709551616 := by
  rw [IntKind.wrap_u64, IntKind.wrap_u64]
  omega
theorem mul_bd (x y : Int) (hx0 : 0 ≤ x) (hy0 : 0 ≤ y) (hx : x < 18446744073709551616) (hy : y < 18446744073709551616) : 0 ≤ x * y ∧ x * y ≤ 340282366920938463426481119284349108225 := by
  refine ⟨Int.mul_nonneg hx0 hy0, ?_⟩
  have h1 : x * y ≤ 18446744073709551615 * y := Int.mul_le_mul_of_nonneg_right (by omega) hy0
  omega
set_option maxHeartbeats 400000 in
theorem maw_int (x y a b : Int) (w : World) (x0 : 0 ≤ x) (y0 : 0 ≤ y) (x1 : x < 18446744073709551616) (y1 : y < 18446744073709551616) (a0 : 0 ≤ a) (a1 : a < 18446744073709551616) (b0 : 0 ≤ b) (b1 : b < 18446744073709551616) :
    Calls Tryz.prog 68 #[.int .u64 x, .int .u64 y, .int .u64 a, .int .u64 b] w fun e w' => e = .returned (.tuple #[.int .u64 ((x * y + a + b) / 18446744073709551616), .int .u64 ((x * y + a + b) % 18446744073709551616)]) ∧ w = w' := by
  obtain ⟨p0, p1⟩ := mul_bd x y x0 y0 x1 y1
  have H := Lib.hid (mw_eq (x * y) a b p0 p1 a0 a1 b0 b1)
  have M := Lib.hid (mul64 x y x0 y0 x1 y1)
  have c0 : 0 ≤ x * y % 18446744073709551616 := by omega
  have c1 : 0 ≤ (x * y % 18446744073709551616 + a) % 18446744073709551616 := by omega
  have q0 : 0 ≤ x * y / 18446744073709551616 := by omega
  generalize x * y = p at *
  obtain ⟨hi, hhi⟩ : ∃ hi, hi = p / 18446744073709551616 := ⟨_, rfl⟩
  obtain ⟨lo, hlo⟩ : ∃ lo, lo = p % 18446744073709551616 := ⟨_, rfl⟩
  rw [← hhi, ← hlo] at H M
  rw [← hlo] at c0 c1
  rw [← hhi] at q0
  clear hhi hlo p1 p0 x0 x1 y0 y1
  go_enter Tryz.func68, Tryz.ntmps68
  go_wp2_with (first | (go_at_call 106; refine (M.out _).mono ?_; rintro e w' ⟨rfl, rfl⟩) | simp only [add64 _ _ c0 a0, add64 _ _ c1 b0])
  go_ret2
  rw [← H.out.1, ← H.out.2]
  exact ⟨rfl, rfl⟩
theorem maw_any (x y a b : Nat) (w : World) (x1 : x < 18446744073709551616) (y1 : y < 18446744073709551616) (a1 : a < 18446744073709551616) (b1 : b < 18446744073709551616) :
    Calls Tryz.prog 68 #[.int .u64 x, .int .u64 y, .int .u64 a, .int .u64 b] w fun e w' => e = .returned (.tuple #[.int .u64 (((x * y + a + b) / 18446744073709551616 : Nat) : Int), .int .u64 (((x * y + a + b) % 18446744073709551616 : Nat) : Int)]) ∧ w = w' := by
  refine (maw_int x y a b w (by omega) (by omega) (by omega) (by omega) (by omega) (by omega) (by omega) (by omega)).mono ?_
  rintro e w' ⟨rfl, rfl⟩
  refine ⟨?_, rfl⟩
  have e1 : ((x : Int) * y + a + b) = ((x * y + a + b : Nat) : Int) := by push_cast; rfl
  rw [e1]
  rfl
theorem guess_bits (t n : Nat) (ht : t < 1152921504606846976) (hn : n < 18446744073709551616) : bits .or .u64 ((t : Int) * 16) ((n : Int) / 1152921504606846976) = ((t * 16 + n / 1152921504606846976 : Nat) : Int) := by
  have e1 : (t : Int) * 16 = ((2 ^ 4 * t : Nat) : Int) := by omega
  have e2 : (n : Int) / 1152921504606846976 = ((n / 1152921504606846976 : Nat) : Int) := by omega
  rw [e1, e2, u64_or_nat _ _ (by omega) (by omega), ← Nat.two_pow_add_eq_or_of_lt (by omega)]
  omega
set_option maxHeartbeats 400000 in
theorem sguess_any (t n : Nat) (w : World) (ht : t < 18446744073709551616) (hn : n < 18446744073709551616) :
    Calls Tryz.prog 71 #[.int .u64 t, .int .u64 n] w fun e w' => e = .returned (.int .u64 (Sc.guessN t n : Int)) ∧ w = w' := by
  by_cases h : 0 < (t : Int) / 1152921504606846976
  · have e : Sc.guessN t n = 18446744073709551615 := by unfold Sc.guessN; rw [if_pos (by omega)]
    have E := Lib.hid e; clear e
    go_enter Tryz.func71, Tryz.ntmps71
    go_wp2
    go_ret
    exact ⟨by rw [E.out]; rfl, rfl⟩
  · have e : Sc.guessN t n = t * 16 + n / 1152921504606846976 := by unfold Sc.guessN; rw [if_neg (by omega)]
    have H := Lib.hid (guess_bits t n (by omega) hn)
    have E := Lib.hid e; clear e
    go_enter Tryz.func71, Tryz.ntmps71
    go_wp2
    go_ret
    exact ⟨by rw [E.out, ← H.out]; rfl, rfl⟩
end Go.Proofs.YtmnlidfalhjghaaGreatDoor
