/- sha's constants out of roots, as numbers: what the document's Constants comes to. No program, no memory. -/
import Derived.Test.YtjnednikgnapnaaDoorShaSpec
namespace Go.Proofs.YtjnednikgnapnaaDoor.Sha
/-- one bit of a root, tried: r stands, or r with the bit -/
def rootStep (goal which bit r : Nat) : Nat := if goal < (r + 2 ^ bit) ^ which then r else r + 2 ^ bit
/-- bits k - 1 down to 0 -/
def rootFrom (goal which : Nat) : Nat → Nat → Nat
  | 0, r => r
  | k + 1, r => rootFrom goal which k (rootStep goal which k r)
def goalOf (p which : Nat) : Nat := p * 2 ^ (64 * which)
def rootN (p which : Nat) : Nat := rootFrom (goalOf p which) which 72 0 % M
/-- the first primes, as the document finds them: n is the next one to try -/
def primesFrom (many : Nat) : Nat → Nat → List Nat → List Nat
  | 0, _, l => l
  | fuel + 1, n, l => if l.length < many then primesFrom many fuel (n + 1) (if l.all (fun q => n % q != 0) then l ++ [n] else l) else l
def primes80 : List Nat := primesFrom 80 410 2 []
theorem primes80_length : primes80.length = 80 := by decide +kernel
theorem primes80_small : ∀ p ∈ primes80, 2 ≤ p ∧ p < 65536 := by decide +kernel
/-- eighty roots of the third kind are K, eight of the second one are H0 -/
theorem roots_K : primes80.map (fun p => rootN p 3) = K := by decide +kernel
theorem roots_H0 : (primes80.take 8).map (fun p => rootN p 2) = H0 := by decide +kernel
theorem pow_two_split (k : Nat) : 2 ^ (k + 1) = 2 ^ k + 2 ^ k := by rw [Nat.pow_succ]; omega
/-- what lies below the bit that is tried is none -/
theorem rootStep_low {goal which k r : Nat} (h : r % 2 ^ (k + 1) = 0) : rootStep goal which k r % 2 ^ k = 0 := by
  have hd : 2 ^ k ∣ r := Nat.dvd_trans ⟨2, Nat.pow_succ ..⟩ (Nat.dvd_of_mod_eq_zero h)
  unfold rootStep
  split
  · exact Nat.mod_eq_zero_of_dvd hd
  · exact Nat.mod_eq_zero_of_dvd (Nat.dvd_add hd (Nat.dvd_refl _))
/-- the bit fits: no carry goes up -/
theorem root_fits {k n r : Nat} (h : r % 2 ^ (k + 1) = 0) (hk : k < n) (hr : r < 2 ^ n) : r + 2 ^ k < 2 ^ n := by
  obtain ⟨c, rfl⟩ := Nat.dvd_of_mod_eq_zero h
  obtain ⟨d, rfl⟩ : ∃ d, n = (k + 1) + d := ⟨n - (k + 1), by omega⟩
  have e := pow_two_split k
  have h0 : 0 < 2 ^ k := Nat.pow_pos (by decide)
  have e3 := Nat.pow_add 2 (k + 1) d
  rw [e3] at hr ⊢
  have hc : c < 2 ^ d := Nat.lt_of_mul_lt_mul_left hr
  have h1 : 2 ^ (k + 1) * (c + 1) ≤ 2 ^ (k + 1) * 2 ^ d := Nat.mul_le_mul_left _ hc
  rw [Nat.mul_add, Nat.mul_one] at h1
  omega
theorem rootStep_lt {goal which k n r : Nat} (h : r % 2 ^ (k + 1) = 0) (hk : k < n) (hr : r < 2 ^ n) : rootStep goal which k r < 2 ^ n := by
  unfold rootStep
  split
  · exact hr
  · exact root_fits h hk hr
end Go.Proofs.YtjnednikgnapnaaDoor.Sha
