/- scalar: the mathematics of products word by word. -/
import Derived.Test.YtmnlidfalhjghaaGreatDoorScSpec
namespace Go.Proofs.YtmnlidfalhjghaaGreatDoor
namespace Sc

theorem pow64 (j : Nat) : (2 : Nat) ^ (64 * (j + 1)) = 2 ^ (64 * j) * 18446744073709551616 := by rw [show 64 * (j + 1) = 64 * j + 64 by omega, Nat.pow_add]
theorem wrd_low (n i j : Nat) (h : i < j) : wrd (n % 2 ^ (64 * j)) i = wrd n i := by
  have e : (2 : Nat) ^ (64 * j) = 2 ^ (64 * i) * (18446744073709551616 * 2 ^ (64 * (j - i - 1))) := by
    rw [show (18446744073709551616 : Nat) = 2 ^ 64 by rfl, ← Nat.pow_add, ← Nat.pow_add]; congr 1; omega
  unfold wrd
  rw [e, Nat.mod_mul_right_div_self, Nat.mod_mul_right_mod]
theorem wrd_high (n i j : Nat) : wrd n (j + i) = wrd (n / 2 ^ (64 * j)) i := by
  unfold wrd
  rw [Nat.div_div_eq_div_mul, ← Nat.pow_add]
  congr 3; omega
/-- one word set -/
theorem setw (M j v : Nat) (hv : v < 18446744073709551616) : ∃ M', wrd M' j = v ∧ (∀ i, i ≠ j → wrd M' i = wrd M i) ∧ M' + wrd M j * 2 ^ (64 * j) = M + v * 2 ^ (64 * j) := by
  have hp : 0 < 2 ^ (64 * j) := Nat.pow_pos (by decide)
  have e1 := Nat.div_add_mod M (2 ^ (64 * j))
  have hl := Nat.mod_lt M hp
  refine ⟨(M / 2 ^ (64 * j) / 18446744073709551616 * 18446744073709551616 + v) * 2 ^ (64 * j) + M % 2 ^ (64 * j), ?_, ?_, ?_⟩
  · unfold wrd
    rw [Nat.mul_comm _ (2 ^ (64 * j)), Nat.mul_add_div hp, Nat.div_eq_of_lt hl]
    omega
  · intro i hi
    rcases Nat.lt_or_ge i j with h | h
    · rw [← wrd_low _ i j h, ← wrd_low M i j h, Nat.mul_comm _ (2 ^ (64 * j)), Nat.mul_add_mod, Nat.mod_mod]
    · obtain ⟨d, rfl⟩ : ∃ d, i = (j + 1) + d := ⟨i - (j + 1), by omega⟩
      rw [wrd_high, wrd_high M, pow64, ← Nat.div_div_eq_div_mul, ← Nat.div_div_eq_div_mul, Nat.mul_comm _ (2 ^ (64 * j)), Nat.mul_add_div hp, Nat.div_eq_of_lt hl]
      congr 1; omega
  · have e2 : wrd M j = M / 2 ^ (64 * j) % 18446744073709551616 := rfl
    have e3 := Nat.div_add_mod (M / 2 ^ (64 * j)) 18446744073709551616
    rw [e2]
    generalize M / 2 ^ (64 * j) = q at *
    generalize M % 2 ^ (64 * j) = r at *
    generalize 2 ^ (64 * j) = p at *
    have e4 : (q / 18446744073709551616 * 18446744073709551616 + v) * p + q % 18446744073709551616 * p = (q + v) * p := by rw [← Nat.add_mul]; congr 1; omega
    rw [Nat.add_mul q] at e4
    rw [Nat.mul_comm] at e1
    omega
theorem mod_next (n k : Nat) : n % 2 ^ (64 * (k + 1)) = n % 2 ^ (64 * k) + wrd n k * 2 ^ (64 * k) := by
  rw [pow64, Nat.mod_mul, Nat.mul_comm (2 ^ (64 * k))]; rfl
/-- one step of the inner loop -/
theorem mul_in (M N x b i k o : Nat) (h : M + o * 2 ^ (64 * (i + k)) = N + x * (b % 2 ^ (64 * k)) * 2 ^ (64 * i)) :
    ∃ M', wrd M' (i + k) = (x * wrd b k + wrd M (i + k) + o) % 18446744073709551616 ∧ (∀ j, j ≠ i + k → wrd M' j = wrd M j) ∧
      M' + (x * wrd b k + wrd M (i + k) + o) / 18446744073709551616 * 2 ^ (64 * (i + k + 1)) = N + x * (b % 2 ^ (64 * (k + 1))) * 2 ^ (64 * i) := by
  obtain ⟨M', h1, h2, h3⟩ := setw M (i + k) ((x * wrd b k + wrd M (i + k) + o) % 18446744073709551616) (Nat.mod_lt _ (by decide))
  refine ⟨M', h1, h2, ?_⟩
  rw [pow64, mod_next, Nat.mul_add x, Nat.add_mul]
  have e1 : x * (wrd b k * 2 ^ (64 * k)) * 2 ^ (64 * i) = x * wrd b k * 2 ^ (64 * (i + k)) := by
    rw [show 64 * (i + k) = 64 * k + 64 * i by omega, Nat.pow_add]; simp [Nat.mul_assoc]
  rw [e1, ← Nat.add_assoc, ← h]
  generalize x * wrd b k = y at *
  generalize 2 ^ (64 * (i + k)) = p at *
  generalize wrd M (i + k) = m at *
  have e2 := Nat.div_add_mod (y + m + o) 18446744073709551616
  have e3 : (18446744073709551616 * ((y + m + o) / 18446744073709551616) + (y + m + o) % 18446744073709551616) * p = (y + m + o) * p := by rw [e2]
  rw [Nat.add_mul, Nat.add_mul, Nat.add_mul] at e3
  have e4 : (y + m + o) / 18446744073709551616 * (p * 18446744073709551616) = 18446744073709551616 * ((y + m + o) / 18446744073709551616) * p := by
    rw [Nat.mul_comm p, ← Nat.mul_assoc, Nat.mul_comm 18446744073709551616]
  rw [e4]
  omega
/-- what is there behind i rounds -/
def part (a b c i : Nat) : Nat := c + a % 2 ^ (64 * i) * b
theorem part_lt (a b c i : Nat) (hb : b < 2 ^ 256) (hc : c < 2 ^ 256) : part a b c i < 2 ^ (64 * (i + 4)) := by
  have e : (2 : Nat) ^ (64 * (i + 4)) = 2 ^ (64 * i) * 2 ^ 256 := by rw [← Nat.pow_add]; congr 1
  have hp : 0 < 2 ^ (64 * i) := Nat.pow_pos (by decide)
  have h1 := Nat.mod_lt a hp
  unfold part
  rw [e]
  have h2 := Nat.mul_le_mul (show a % 2 ^ (64 * i) ≤ 2 ^ (64 * i) - 1 by omega) (show b ≤ 2 ^ 256 - 1 by omega)
  have h3 : (2 ^ (64 * i) - 1) * (2 ^ 256 - 1) + (2 ^ 256 - 1) = 2 ^ (64 * i) * (2 ^ 256 - 1) := by
    obtain ⟨p, hp2⟩ : ∃ p, 2 ^ (64 * i) = p + 1 := ⟨2 ^ (64 * i) - 1, by omega⟩
    rw [hp2, Nat.add_sub_cancel, Nat.add_mul, Nat.one_mul]
  have h4 : 2 ^ (64 * i) * (2 ^ 256 - 1) < 2 ^ (64 * i) * 2 ^ 256 := Nat.mul_lt_mul_of_pos_left (by decide) hp
  omega
theorem part_top (a b c i j : Nat) (hb : b < 2 ^ 256) (hc : c < 2 ^ 256) (hj : i + 4 ≤ j) : wrd (part a b c i) j = 0 := by
  have h := part_lt a b c i hb hc
  have h2 : (2 : Nat) ^ (64 * (i + 4)) ≤ 2 ^ (64 * j) := Nat.pow_le_pow_right (by decide) (by omega)
  unfold wrd
  rw [Nat.div_eq_of_lt (by omega)]
theorem part_next (a b c i : Nat) : part a b c (i + 1) = part a b c i + wrd a i * b * 2 ^ (64 * i) := by
  unfold part
  rw [mod_next, Nat.add_mul, Nat.mul_assoc (wrd a i), Nat.mul_assoc (wrd a i), Nat.mul_comm b, Nat.add_assoc]
theorem part_end (a b c : Nat) (ha : a < 2 ^ 256) : part a b c 4 = a * b + c := by
  unfold part
  rw [Nat.mod_eq_of_lt ha, Nat.add_comm]
/-- the last word of a round -/
theorem mul_out (M N x b i o : Nat) (hb : b < 2 ^ 256) (h : M + o * 2 ^ (64 * (i + 4)) = N + x * (b % 2 ^ (64 * 4)) * 2 ^ (64 * i)) (hz : wrd M (i + 4) = 0) (ho : o < 18446744073709551616) :
    ∃ M', wrd M' (i + 4) = o ∧ (∀ j, j ≠ i + 4 → wrd M' j = wrd M j) ∧ M' = N + x * b * 2 ^ (64 * i) := by
  obtain ⟨M', h1, h2, h3⟩ := setw M (i + 4) o ho
  refine ⟨M', h1, h2, ?_⟩
  rw [hz, Nat.zero_mul, Nat.add_zero, h, Nat.mod_eq_of_lt hb] at h3
  exact h3
theorem over_lt (x y m o : Nat) (hx : x < 18446744073709551616) (hy : y < 18446744073709551616) (hm : m < 18446744073709551616) (ho : o < 18446744073709551616) : (x * y + m + o) / 18446744073709551616 < 18446744073709551616 := by
  have h := Nat.mul_le_mul (show x ≤ 18446744073709551615 by omega) (show y ≤ 18446744073709551615 by omega)
  omega
end Sc
end Go.Proofs.YtmnlidfalhjghaaGreatDoor
