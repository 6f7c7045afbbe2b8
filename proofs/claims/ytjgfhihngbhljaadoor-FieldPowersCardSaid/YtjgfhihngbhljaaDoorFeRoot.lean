/- Numbers modulo 2^255 - 19: what is inverted, and roots. No program is named here. -/
import Derived.Test.YtjgfhihngbhljaaDoorFeSpec
namespace Go.Proofs.YtjgfhihngbhljaaDoor.Fe
open Num

/-- p - 1, p - 2, (p - 1) / 2, (p - 5) / 8, (p - 1) / 4 -/
def eFull : Nat := 57896044618658097711785492504343953926634992332820282019728792003956564819948
def eInv : Nat := 57896044618658097711785492504343953926634992332820282019728792003956564819947
def eHalf : Nat := 28948022309329048855892746252171976963317496166410141009864396001978282409974
def eEighth : Nat := 7237005577332262213973186563042994240829374041602535252466099000494570602493
def eFourth : Nat := 14474011154664524427946373126085988481658748083205070504932198000989141204987
theorem eFull_is : eFull = P - 1 := by decide +kernel
theorem eInv_is : eInv + 1 = eFull := by decide +kernel
theorem eHalf_is : eHalf + eHalf = eFull := by decide +kernel
theorem eHalf_is' : 2 * eHalf = eFull := by decide +kernel
theorem eFourth_is : eFourth + eFourth = eHalf := by decide +kernel
theorem eFourth_is' : 2 * eFourth = eHalf := by decide +kernel
theorem eEighth_is : eEighth + eEighth + 1 = eFourth := by decide +kernel
theorem P_prime : Prime P := p_prime
theorem P_2 : 2 ≤ P := P_prime.1
theorem not_dvd {x : Nat} (h : x % P ≠ 0) : ¬ P ∣ x := fun k => h (Nat.mod_eq_zero_of_dvd k)
theorem fermatP {x : Nat} (h : x % P ≠ 0) : x ^ eFull % P = 1 := by rw [eFull_is]; exact fermat P_prime (not_dvd h)
theorem mul_ne {x y : Nat} (hx : x % P ≠ 0) (hy : y % P ≠ 0) : x * y % P ≠ 0 := fun h => by
  rcases P_prime.dvd_mul (Nat.dvd_of_mod_eq_zero h) with k | k
  · exact hx (Nat.mod_eq_zero_of_dvd k)
  · exact hy (Nat.mod_eq_zero_of_dvd k)
theorem pow_ne {x : Nat} (hx : x % P ≠ 0) (n : Nat) : x ^ n % P ≠ 0 := by
  induction n with
  | zero => rw [Nat.pow_zero, Nat.mod_eq_of_lt P_2]; omega
  | succ n ih => rw [Nat.pow_succ]; exact mul_ne ih hx
theorem cong_mul {a b c d : Nat} (h : a % P = b % P) (k : c % P = d % P) : a * c % P = b * d % P := by rw [Nat.mul_mod, h, k, ← Nat.mul_mod]
theorem cong_pow {a b : Nat} (n : Nat) (h : a % P = b % P) : a ^ n % P = b ^ n % P := by rw [Nat.pow_mod, h, ← Nat.pow_mod]

/-- what is inverted -/
theorem inv_is (x : Nat) : x * (x ^ eInv % P) % P = if x % P = 0 then 0 else 1 := by
  by_cases h : x % P = 0
  · rw [if_pos h, Nat.mul_mod, h, Nat.zero_mul, Nat.zero_mod]
  · rw [if_neg h, Nat.mul_mod_mod, ← Nat.pow_succ', show eInv.succ = eFull from eInv_is, fermatP h]
theorem sq_one {y : Nat} (h : y * y % P = 1) : y % P = 1 ∨ y % P = P - 1 := by
  have h2 := P_2
  rcases Nat.eq_zero_or_pos y with e | e
  · subst e; rw [Nat.zero_mul, Nat.zero_mod] at h; omega
  · obtain ⟨z, rfl⟩ : ∃ z, y = z + 1 := ⟨y - 1, by omega⟩
    have e1 : (z + 1) * (z + 1) = z * (z + 2) + 1 := by grind
    have hd : P ∣ z * (z + 2) := by
      have := Nat.sub_mod_eq_zero_of_mod_eq (m := (z + 1) * (z + 1)) (n := 1) (k := P) (by rw [h, Nat.mod_eq_of_lt h2])
      rw [e1, Nat.add_sub_cancel] at this
      exact Nat.dvd_of_mod_eq_zero this
    rcases P_prime.dvd_mul hd with ⟨k, hk⟩ | ⟨k, hk⟩
    · left; rw [hk, Nat.mul_add_mod, Nat.mod_eq_of_lt h2]
    · right
      have : z + 1 = P * k - 1 := by omega
      unfold P at *
      omega
theorem half_one {x : Nat} (h : x % P ≠ 0) : x ^ eHalf % P = 1 ∨ x ^ eHalf % P = P - 1 := by
  apply sq_one
  rw [← Nat.pow_add, eHalf_is]
  exact fermatP h
theorem square_half {x s : Nat} (hx : x % P ≠ 0) (h : s * s % P = x % P) : x ^ eHalf % P = 1 := by
  have hs : s % P ≠ 0 := fun e => hx (by rw [← h, Nat.mul_mod, e, Nat.zero_mul, Nat.zero_mod])
  have e : (s * s) ^ eHalf = s ^ eFull := by
    rw [show s * s = s ^ 2 from by rw [Nat.pow_succ, Nat.pow_one], ← Nat.pow_mul, eHalf_is']
  rw [← cong_pow _ h, e, fermatP hs]
/-- a root of -1 -/
def i0 : Nat := 19681161376707505956807079304988542015446066515923890162744021073123829784752
theorem i0_is : i0 * i0 % P = P - 1 := by decide +kernel
theorem two_half : 2 ^ eHalf % P = P - 1 := pow_is 256 (by decide +kernel) (by decide +kernel)

def gN (u v : Nat) : Nat := u * v ^ 3 * (u * v ^ 7) ^ eEighth
def epsN (u v : Nat) : Nat := (u * v ^ 7) ^ eFourth
theorem g_sq (u v : Nat) : gN u v * gN u v * v = u * epsN u v := by
  have e : epsN u v = (u * v ^ 7) ^ eEighth * (u * v ^ 7) ^ eEighth * (u * v ^ 7) := by
    unfold epsN
    rw [← Nat.pow_add, ← Nat.pow_succ, ← eEighth_is]
  rw [e]
  unfold gN
  generalize (u * v ^ 7) ^ eEighth = Y
  grind
/-- r times r times v is u -/
def FitsN (r u v : Nat) : Prop := r * r * v % P = u % P
instance (r u v : Nat) : Decidable (FitsN r u v) := inferInstanceAs (Decidable (_ = _))
theorem minus_minus (x : Nat) : x * (P - 1) * (P - 1) % P = x % P := by
  have e : x * (P - 1) * (P - 1) = x + P * (x * (P - 2)) := by
    obtain ⟨q, hq⟩ : ∃ q, P = q + 2 := ⟨P - 2, by have := P_2; omega⟩
    rw [hq, show q + 2 - 1 = q + 1 by omega, show q + 2 - 2 = q by omega]
    grind
  rw [e, Nat.add_mul_mod_self_left]
/-- either the guess fits, or the guess times a root of -1 does -/
theorem fits_eps {u v : Nat} (h : epsN u v % P = 1 ∨ epsN u v % P = P - 1) : FitsN (gN u v) u v ∨ FitsN (gN u v * i0) u v := by
  have h2 := P_2
  rcases h with h | h
  · left
    unfold FitsN
    rw [g_sq, Nat.mul_mod, h, Nat.mul_one, Nat.mod_mod]
  · right
    unfold FitsN
    have e : gN u v * i0 * (gN u v * i0) * v = (gN u v * gN u v * v) * (i0 * i0) := by generalize gN u v = g; grind
    have c1 : epsN u v % P = (P - 1) % P := by rw [h, Nat.mod_eq_of_lt (by omega)]
    have c2 : i0 * i0 % P = (P - 1) % P := by rw [i0_is, Nat.mod_eq_of_lt (by omega)]
    rw [e, g_sq, cong_mul (cong_mul (rfl : u % P = u % P) c1) c2, minus_minus]
theorem fits_zero {u v : Nat} (h : u % P = 0) : FitsN (gN u v) u v := by
  unfold FitsN
  rw [g_sq, Nat.mul_mod, h, Nat.zero_mul, Nat.zero_mod]
/-- where there is a root, one of both fits -/
theorem fits_any {u v t : Nat} (h : t * t * v % P = u % P) : FitsN (gN u v) u v ∨ FitsN (gN u v * i0) u v := by
  by_cases hu : u % P = 0
  · exact Or.inl (fits_zero hu)
  have hv : v % P ≠ 0 := fun e => hu (by rw [← h, Nat.mul_mod, e, Nat.mul_zero, Nat.zero_mod])
  have ht : t % P ≠ 0 := fun e => hu (by rw [← h, Nat.mul_assoc, Nat.mul_mod, e, Nat.zero_mul, Nat.zero_mod])
  have hw := mul_ne ht (pow_ne hv 4)
  apply fits_eps
  have e : epsN u v % P = (t * v ^ 4) ^ eHalf % P := by
    have c : u * v ^ 7 % P = (t * v ^ 4) ^ 2 % P := by
      rw [cong_mul h.symm (rfl : v ^ 7 % P = v ^ 7 % P)]
      congr 1
      grind
    unfold epsN
    rw [cong_pow _ c, ← Nat.pow_mul, eFourth_is']
  rw [e]
  exact half_one hw
/-- where the half power is 1, one of both fits -/
theorem fits_half {u : Nat} (h : u ^ eHalf % P = 1) : FitsN (gN u 1) u 1 ∨ FitsN (gN u 1 * i0) u 1 := by
  apply fits_eps
  apply sq_one
  unfold epsN
  rw [← Nat.pow_add, eFourth_is, Nat.one_pow, Nat.mul_one]
  exact h
/-- of a number and twice it just one has the half power 1 -/
theorem half_two {x : Nat} (hx : x % P ≠ 0) : (x ^ eHalf % P = 1) ↔ ¬ ((x + x) ^ eHalf % P = 1) := by
  have h2 := P_2
  have hP : P - 1 ≠ 1 := by unfold P; omega
  have e : (x + x) ^ eHalf % P = (P - 1) * (x ^ eHalf) % P := by
    rw [show x + x = 2 * x by omega, Nat.mul_pow]
    exact cong_mul (by rw [two_half, Nat.mod_eq_of_lt (by omega)]) rfl
  rw [e]
  rcases half_one hx with h | h
  · rw [h, Nat.mul_mod, h, Nat.mul_one, Nat.mod_mod, Nat.mod_eq_of_lt (by omega : P - 1 < P)]
    simp [hP]
  · rw [h, Nat.mul_mod, h, Nat.mod_eq_of_lt (by omega : P - 1 < P)]
    have := minus_minus 1
    rw [Nat.one_mul] at this
    rw [this, Nat.mod_eq_of_lt h2]
    simp [hP]
/-- two roots are the same, or opposite -/
theorem roots_two {r a v : Nat} (hv : v % P ≠ 0) (hr : r < P) (ha : a < P) (h : r * r * v % P = a * a * v % P) : r = a ∨ r = (P - a) % P := by
  have h2 := P_2
  have go : ∀ x y : Nat, x < P → y < P → y ≤ x → x * x * v % P = y * y * v % P → x = y ∨ x + y = P := by
    intro x y hx hy hxy e
    have h1 := cancel P_prime (not_dvd hv) (Nat.mul_le_mul hxy hxy) e
    obtain ⟨d, rfl⟩ : ∃ d, x = y + d := ⟨x - y, by omega⟩
    have ed : (y + d) * (y + d) = y * y + d * (d + 2 * y) := by grind
    rw [ed, Nat.add_sub_cancel_left] at h1
    rcases P_prime.dvd_mul h1 with ⟨k, hk⟩ | ⟨k, hk⟩
    · left
      rcases Nat.eq_zero_or_pos k with z | z
      · subst z; omega
      · have := Nat.le_mul_of_pos_right P z; omega
    · rcases Nat.eq_zero_or_pos k with z | z
      · subst z; left; omega
      · right
        by_cases k1 : k = 1
        · subst k1; omega
        · have : P * 2 ≤ P * k := Nat.mul_le_mul_left P (by omega)
          omega
  rcases Nat.le_total a r with l | l
  · rcases go r a hr ha l h with e | e
    · exact Or.inl e
    · right; rw [Nat.mod_eq_of_lt (by omega)]; omega
  · rcases go a r ha hr l h.symm with e | e
    · exact Or.inl e.symm
    · right; rw [Nat.mod_eq_of_lt (by omega)]; omega
end Go.Proofs.YtjgfhihngbhljaaDoor.Fe
