/- sha's constants out of roots: numbers in base 2^16, as lists (mathematics). -/
import Derived.Test.YtjnednikgnapnaaDoorShaRootM
import Derived.Test.YtjnednikgnapnaaDoorNsM
namespace Go.Proofs.YtjnednikgnapnaaDoor.Sha
open Ns
theorem V_zeros (n : Nat) : V (List.replicate n 0) = 0 := by
  induction n with
  | zero => rfl
  | succ n ih => show 0 + 65536 * V (List.replicate n 0) = 0; rw [ih]
theorem V_pad (a : List Nat) (n : Nat) : V (a ++ List.replicate n 0) = V a := by rw [V_append, V_zeros, Nat.mul_zero, Nat.add_zero]
theorem pad_at (a : List Nat) (n j : Nat) : (a ++ List.replicate n 0).getD j 0 = a.getD j 0 := by
  rw [List.getD_eq_getElem?_getD, List.getD_eq_getElem?_getD, List.getElem?_append]
  split
  · rfl
  · next h =>
    rw [List.getElem?_eq_none (by omega : a.length ≤ j), List.getElem?_replicate]
    split <;> rfl
theorem whole_pad {a : List Nat} (h : Whole a) (n : Nat) : Whole (a ++ List.replicate n 0) := by
  intro d hd
  rcases List.mem_append.1 hd with h1 | h1
  · exact h d h1
  · rw [List.eq_of_mem_replicate h1]; decide
theorem list_at {a b : List Nat} (hl : a.length = b.length) (h : ∀ j, j < a.length → a.getD j 0 = b.getD j 0) : a = b := by
  apply List.ext_getElem hl
  intro i h1 h2
  have := h i h1
  rw [List.getD_eq_getElem?_getD, List.getD_eq_getElem?_getD, List.getElem?_eq_getElem h1, List.getElem?_eq_getElem h2] at this
  exact this
/-- the highest digit that is not the same decides -/
theorem V_above (a b : List Nat) (i : Nat) (ha : Whole a) (he : ∀ j, i < j → a.getD j 0 = b.getD j 0) (hl : a.getD i 0 < b.getD i 0) : V a < V b := by
  have hib : i < b.length := by
    rcases Nat.lt_or_ge i b.length with h | h
    · exact h
    · rw [show b.getD i 0 = 0 by rw [List.getD_eq_getElem?_getD, List.getElem?_eq_none h]; rfl] at hl; omega
  rw [← V_pad a b.length, ← V_pad b a.length]
  refine V_less _ _ i (whole_pad ha _) (by simp; omega) (by simp; omega) ?_ (by rw [pad_at, pad_at]; exact hl)
  apply list_at
  · simp; omega
  · intro j _
    rw [List.getD_eq_getElem?_getD, List.getD_eq_getElem?_getD, List.getElem?_drop, List.getElem?_drop, ← List.getD_eq_getElem?_getD, ← List.getD_eq_getElem?_getD, pad_at, pad_at]
    exact he _ (by omega)
theorem V_same (a b : List Nat) (he : ∀ j, a.getD j 0 = b.getD j 0) : V a = V b := by
  rw [← V_pad a b.length, ← V_pad b a.length]
  congr 1
  apply list_at
  · simp; omega
  · intro j _; rw [pad_at, pad_at]; exact he j
/-- one digit of a product -/
theorem times_step (out : List Nat) (i k a b c : Nat) (h : i + k < out.length) :
    V (out.set (i + k) ((a * b + out.getD (i + k) 0 + c) % 65536)) + 65536 ^ (i + (k + 1)) * ((a * b + out.getD (i + k) 0 + c) / 65536) = V out + 65536 ^ (i + k) * c + 65536 ^ i * a * (65536 ^ k * b) := by
  have hs := V_set out (i + k) ((a * b + out.getD (i + k) 0 + c) % 65536) h
  generalize out.getD (i + k) 0 = o at *
  generalize V (out.set (i + k) ((a * b + o + c) % 65536)) = v at *
  have hx := Nat.mod_add_div (a * b + o + c) 65536
  generalize (a * b + o + c) % 65536 = x at *
  generalize (a * b + o + c) / 65536 = y at *
  have e1 : 65536 ^ (i + (k + 1)) = 65536 ^ (i + k) * 65536 := by rw [← Nat.add_assoc, Nat.pow_succ]
  have e2 : 65536 ^ i * a * (65536 ^ k * b) = 65536 ^ (i + k) * (a * b) := by rw [Nat.pow_add]; ac_rfl
  rw [e1, e2, Nat.mul_assoc]
  generalize 65536 ^ (i + k) = p at *
  have e3 : p * x + p * (65536 * y) = p * (a * b) + p * o + p * c := by rw [← Nat.mul_add, hx, Nat.mul_add, Nat.mul_add]
  omega
theorem carry_lt {a b o c : Nat} (ha : a < 65536) (hb : b < 65536) (ho : o < 65536) (hc : c < 65536) : a * b + o + c < 4294967296 ∧ (a * b + o + c) / 65536 < 65536 := by
  have h : a * b ≤ 65535 * 65535 := Nat.mul_le_mul (by omega) (by omega)
  omega
theorem whole_set {l : List Nat} (h : Whole l) (i x : Nat) (hx : x < 65536) : Whole (l.set i x) := by
  intro d hd
  rcases List.mem_or_eq_of_mem_set hd with h1 | rfl
  · exact h d h1
  · exact hx
/-- a digit of a number whose low bits are none -/
theorem digit_of (l : List Nat) (i : Nat) (h : Whole l) (hi : i < l.length) : l.getD i 0 = V l / 65536 ^ i % 65536 := by
  rw [V_split l i hi]
  have hlt : V (l.take i) < 65536 ^ i := by
    have := V_lt _ (whole_take h i)
    rwa [List.length_take, Nat.min_eq_left (Nat.le_of_lt hi)] at this
  rw [Nat.add_mul_div_left _ _ (Nat.pow_pos (by decide)), Nat.div_eq_of_lt hlt, Nat.zero_add, Nat.add_mul_mod_self_left, Nat.mod_eq_of_lt (of_whole h i)]
theorem pow16 (q : Nat) : 65536 ^ q = 2 ^ (16 * q) := by rw [Nat.pow_mul]
theorem digit_low (l : List Nat) (k : Nat) (h : Whole l) (hi : k / 16 < l.length) (hm : V l % 2 ^ (k + 1) = 0) : l.getD (k / 16) 0 % 2 ^ (k % 16 + 1) = 0 := by
  rw [digit_of l _ h hi, pow16]
  have e : k + 1 = 16 * (k / 16) + (k % 16 + 1) := by omega
  obtain ⟨c, hc⟩ := Nat.dvd_of_mod_eq_zero hm
  rw [hc, e, Nat.pow_add, Nat.mul_assoc, Nat.mul_div_cancel_left _ (Nat.pow_pos (by decide))]
  have e2 : (65536 : Nat) = 2 ^ (k % 16 + 1) * 2 ^ (15 - k % 16) := by rw [← Nat.pow_add, show k % 16 + 1 + (15 - k % 16) = 16 by omega]
  rw [e2, Nat.mod_mul_right_mod, Nat.mul_mod_right]
theorem bit_fits (l : List Nat) (k : Nat) (h : Whole l) (hi : k / 16 < l.length) (hm : V l % 2 ^ (k + 1) = 0) : l.getD (k / 16) 0 + 2 ^ (k % 16) < 65536 :=
  root_fits (n := 16) (digit_low l k h hi hm) (by omega) (of_whole h _)
theorem bit_value (l : List Nat) (k : Nat) (hi : k / 16 < l.length) : V (l.set (k / 16) (l.getD (k / 16) 0 + 2 ^ (k % 16))) = V l + 2 ^ k := by
  have h := V_set l (k / 16) (l.getD (k / 16) 0 + 2 ^ (k % 16)) hi
  rw [Nat.mul_add] at h
  have e : 65536 ^ (k / 16) * 2 ^ (k % 16) = 2 ^ k := by rw [pow16, ← Nat.pow_add]; congr 1; omega
  rw [e] at h
  omega
theorem set_back (l : List Nat) (i x : Nat) (h : i < l.length) : (l.set i x).set i (l.getD i 0) = l := by
  rw [List.set_set]
  apply List.ext_getElem (by simp)
  intro j h1 h2
  rw [List.getElem_set]
  split
  · next e => subst e; rw [List.getD_eq_getElem?_getD, List.getElem?_eq_getElem h]; rfl
  · rfl
end Go.Proofs.YtjnednikgnapnaaDoor.Sha
