/- scalar's document: the mathematics: numbers by bytes compared, doubled, less one another; products by bytes. -/
import Derived.Test.YtmnlidfalhjghaaGreatDoorScBytes
namespace Go.Proofs.YtmnlidfalhjghaaGreatDoor
open Go.RowKit Ow
namespace Sr
theorem leN_cmp (f g : Nat → Nat) (hf : ∀ i, f i < 256) (hg : ∀ i, g i < 256) (i : Nat) : ∀ n, i < n → (∀ j, i < j → j < n → f j = g j) → f i ≠ g i → (Sc.leN f n < Sc.leN g n ↔ f i < g i) := by
  intro n
  induction n with
  | zero => intro h; omega
  | succ n ih =>
    intro hi he hne
    have h1 := Sc.leN_lt f hf n
    have h2 := Sc.leN_lt g hg n
    rw [Sc.leN, Sc.leN]
    by_cases e : i = n
    · subst e
      constructor
      · intro h
        rcases Nat.lt_or_ge (f i) (g i) with h3 | h3
        · exact h3
        · have := Nat.mul_le_mul_right (2 ^ (8 * i)) (show g i + 1 ≤ f i by omega)
          rw [Nat.add_mul, Nat.one_mul] at this
          omega
      · intro h
        have := Nat.mul_le_mul_right (2 ^ (8 * i)) (show f i + 1 ≤ g i by omega)
        rw [Nat.add_mul, Nat.one_mul] at this
        omega
    · have := ih (by omega) (fun j h1 h2 => he j h1 (by omega)) hne
      rw [he n (by omega) (by omega)]
      omega
theorem num_is (l : List Nat) (n : Nat) (hl : l.length = n) : num l = Sc.leN (fun i => l.getD i 0) n := by unfold num; rw [hl]
/-- the first unlike byte from above tells which one is less -/
theorem less_at (a b : List Nat) (n i : Nat) (ha : a.length = n) (hb : b.length = n) (hba : ∀ i, a.getD i 0 < 256) (hbb : ∀ i, b.getD i 0 < 256) (hi : i < n) (he : ∀ j, i < j → j < n → a.getD j 0 = b.getD j 0) (hne : a.getD i 0 ≠ b.getD i 0) : decide (num a < num b) = decide (a.getD i 0 < b.getD i 0) := by
  rw [num_is a n ha, num_is b n hb, Bool.eq_iff_iff, decide_eq_true_iff, decide_eq_true_iff]
  exact leN_cmp _ _ hba hbb i n hi he hne
theorem less_none (a b : List Nat) (n : Nat) (ha : a.length = n) (hb : b.length = n) (he : ∀ j, j < n → a.getD j 0 = b.getD j 0) : decide (num a < num b) = false := by
  rw [num_is a n ha, num_is b n hb, Sc.leN_congr _ _ n (fun i hi => he i hi)]
  exact decide_eq_false (Nat.lt_irrefl _)
theorem div_next (n k : Nat) : n / 2 ^ (8 * (k + 1)) = n / 2 ^ (8 * k) / 256 := by
  rw [show 8 * (k + 1) = 8 * k + 8 by omega, Nat.pow_add, Nat.div_div_eq_div_mul]
theorem div_at (l : List Nat) (hb : ∀ i, l.getD i 0 < 256) (k : Nat) (hk : k < l.length) : num l / 2 ^ (8 * k) % 256 = l.getD k 0 := Sc.byt_leN (fun i => l.getD i 0) hb l.length k hk
/-- what is carried into byte k of twice a number and a bit -/
def cry (a : List Nat) (bit : Nat) : Nat → Nat
  | 0 => bit
  | k + 1 => a.getD k 0 / 128
theorem cry_le (a : List Nat) (bit : Nat) (hb : ∀ i, a.getD i 0 < 256) (h : bit ≤ 1) (k : Nat) : cry a bit k ≤ 1 := by
  cases k with
  | zero => exact h
  | succ k => have := hb k; show a.getD k 0 / 128 ≤ 1; omega
theorem dbl_div (a : List Nat) (bit : Nat) (hb : ∀ i, a.getD i 0 < 256) (h : bit ≤ 1) : ∀ k, k ≤ a.length → (2 * num a + bit) / 2 ^ (8 * k) = 2 * (num a / 2 ^ (8 * k)) + cry a bit k := by
  intro k
  induction k with
  | zero => intro _; simp [cry]
  | succ k ih =>
    intro hk
    have h1 := ih (by omega)
    have h2 := div_at a hb k (by omega)
    have h3 := cry_le a bit hb h k
    have h4 := hb k
    rw [div_next, h1, div_next]
    show _ = _ + a.getD k 0 / 128
    generalize num a / 2 ^ (8 * k) = X at *
    omega
theorem dbl_byt (a : List Nat) (bit : Nat) (hb : ∀ i, a.getD i 0 < 256) (h : bit ≤ 1) (k : Nat) (hk : k < a.length) : Sc.byt (2 * num a + bit) k = 2 * a.getD k 0 % 256 + cry a bit k := by
  have h1 := dbl_div a bit hb h k (by omega)
  have h2 := div_at a hb k hk
  have h3 := cry_le a bit hb h k
  unfold Sc.byt
  rw [h1]
  generalize num a / 2 ^ (8 * k) = X at *
  omega
/-- what is borrowed -/
def brw (a b : List Nat) : Nat → Nat
  | 0 => 0
  | k + 1 => if a.getD k 0 < b.getD k 0 + brw a b k then 1 else 0
theorem brw_le (a b : List Nat) (k : Nat) : brw a b k ≤ 1 := by
  cases k with
  | zero => exact Nat.zero_le _
  | succ k => unfold brw; split <;> omega
theorem sub_div (a b : List Nat) (n : Nat) (ha : a.length = n) (hb : b.length = n) (hba : ∀ i, a.getD i 0 < 256) (hbb : ∀ i, b.getD i 0 < 256) (h : num b ≤ num a) : ∀ k, k ≤ n → num a / 2 ^ (8 * k) = num b / 2 ^ (8 * k) + (num a - num b) / 2 ^ (8 * k) + brw a b k := by
  intro k
  induction k with
  | zero => intro _; simp [brw]; omega
  | succ k ih =>
    intro hk
    have h1 := ih (by omega)
    have h2 := div_at a hba k (by omega)
    have h3 := div_at b hbb k (by omega)
    have h4 := hba k
    have h5 := hbb k
    have h6 := brw_le a b k
    rw [div_next, div_next, div_next]
    show _ = _ + _ + (if a.getD k 0 < b.getD k 0 + brw a b k then 1 else 0)
    generalize num a / 2 ^ (8 * k) = X at *
    generalize num b / 2 ^ (8 * k) = Y at *
    generalize (num a - num b) / 2 ^ (8 * k) = Z at *
    split <;> omega
theorem sub_byt (a b : List Nat) (n k : Nat) (ha : a.length = n) (hb : b.length = n) (hba : ∀ i, a.getD i 0 < 256) (hbb : ∀ i, b.getD i 0 < 256) (h : num b ≤ num a) (hk : k < n) : Sc.byt (num a - num b) k + b.getD k 0 + brw a b k = a.getD k 0 + 256 * brw a b (k + 1) := by
  have h1 := sub_div a b n ha hb hba hbb h k (by omega)
  have h2 := div_at a hba k (by omega)
  have h3 := div_at b hbb k (by omega)
  have h4 := hba k
  have h5 := hbb k
  have h6 := brw_le a b k
  unfold Sc.byt
  show _ = _ + 256 * (if a.getD k 0 < b.getD k 0 + brw a b k then 1 else 0)
  generalize num a / 2 ^ (8 * k) = X at *
  generalize num b / 2 ^ (8 * k) = Y at *
  generalize (num a - num b) / 2 ^ (8 * k) = Z at *
  split <;> omega
/-- a number of n bytes is the one of its bytes -/
theorem num_of (n k : Nat) (h : n < 2 ^ (8 * k)) : num (bytesN n k) = n := by rw [num_bytesN, Nat.mod_eq_of_lt h]
theorem lt_pow (n k : Nat) (h : n < 3 * Sc.L) (hk : 256 ≤ k) : n < 2 ^ k := by
  have h1 : 3 * Sc.L ≤ 2 ^ 256 := by decide
  have h2 : (2 : Nat) ^ 256 ≤ 2 ^ k := Nat.pow_le_pow_right (by decide) hk
  exact Nat.lt_of_lt_of_le h (Nat.le_trans h1 h2)
theorem lt33 (n : Nat) (h : n < 3 * Sc.L) : n < 2 ^ (8 * 33) := by
  have h2 := lt_pow n (8 * 33) h (by decide)
  exact h2
theorem bytes_prefix (n : Nat) (h : n < 2 ^ (8 * 32)) : bytesN n 33 = bytesN n 32 ++ [0] := by
  rw [bytesN_succ]
  unfold Sc.byt
  rw [Nat.div_eq_of_lt h]
/-- the rest, bit by bit -/
theorem rest_bit (N i : Nat) : N / 2 ^ i % Sc.L = (2 * (N / 2 ^ (i + 1) % Sc.L) + N / 2 ^ i % 2) % Sc.L := by
  have e : N / 2 ^ i = 2 * (N / 2 ^ (i + 1)) + N / 2 ^ i % 2 := by rw [Nat.pow_succ, ← Nat.div_div_eq_div_mul]; omega
  have e2 : (2 * (N / 2 ^ (i + 1) % Sc.L) + N / 2 ^ i % 2) % Sc.L = (2 * (N / 2 ^ (i + 1)) + N / 2 ^ i % 2) % Sc.L := by
    rw [Nat.add_mod, Nat.mul_mod, Nat.mod_mod, ← Nat.mul_mod, ← Nat.add_mod]
  rw [e2, ← e]
theorem rest_less (d : Nat) (h : d < Sc.L) : d % Sc.L = d := Nat.mod_eq_of_lt h
theorem rest_sub (d : Nat) (h : ¬ d < Sc.L) (h2 : d < 2 * Sc.L) : d % Sc.L = d - Sc.L := by
  rw [Nat.mod_eq_sub_mod (by omega), Nat.mod_eq_of_lt (by omega)]
/-- bit i of a number, out of its bytes -/
theorem bit_byte (l : List Nat) (hb : ∀ i, l.getD i 0 < 256) (i : Nat) (hi : i < 8 * l.length) : l.getD (i / 8) 0 / 2 ^ (i % 8) % 2 = num l / 2 ^ i % 2 := by
  have h := div_at l hb (i / 8) (by omega)
  rw [← h]
  have e1 : (2 : Nat) ^ i = 2 ^ (8 * (i / 8)) * 2 ^ (i % 8) := by rw [← Nat.pow_add]; congr 1; omega
  rw [e1, ← Nat.div_div_eq_div_mul]
  generalize num l / 2 ^ (8 * (i / 8)) = x
  have e2 : (256 : Nat) = 2 ^ (i % 8) * (2 * 2 ^ (7 - i % 8)) := by
    rw [show (2 : Nat) * 2 ^ (7 - i % 8) = 2 ^ (7 - i % 8 + 1) by rw [Nat.pow_succ, Nat.mul_comm], ← Nat.pow_add, show i % 8 + (7 - i % 8 + 1) = 8 by omega]
  rw [e2, Nat.mod_mul_right_div_self, Nat.mod_mul_right_mod]
/-! ### sums of parts that are no bytes -/
/-- the value of parts -/
def val (t : List Nat) : Nat := Sc.leN (fun i => t.getD i 0) t.length
theorem leN_add (f g : Nat → Nat) (i d : Nat) (he : ∀ j, j ≠ i → g j = f j) (hi : g i = f i + d) : ∀ n, i < n → Sc.leN g n = Sc.leN f n + d * 2 ^ (8 * i) := by
  intro n
  induction n with
  | zero => intro h; omega
  | succ n ih =>
    intro h
    rw [Sc.leN, Sc.leN]
    by_cases e : i = n
    · subst e
      rw [Sc.leN_congr g f i (fun j hj => he j (by omega)), hi, Nat.add_mul]; omega
    · rw [ih (by omega), he n (by omega)]; omega
theorem getD_set (t : List Nat) (i x j : Nat) (hi : i < t.length) : (t.set i x).getD j 0 = if j = i then x else t.getD j 0 := by
  rw [List.getD_eq_getElem?_getD, List.getElem?_set]
  by_cases h : i = j
  · subst h; simp [hi]
  · rw [if_neg h, if_neg (fun e => h e.symm), List.getD_eq_getElem?_getD]
theorem val_add (t : List Nat) (i d : Nat) (hi : i < t.length) : val (t.set i (t.getD i 0 + d)) = val t + d * 2 ^ (8 * i) := by
  unfold val
  rw [List.length_set]
  refine leN_add _ _ i d (fun j hj => ?_) ?_ _ hi
  · show (t.set i _).getD j 0 = _; rw [getD_set t i _ j hi, if_neg hj]
  · show (t.set i _).getD i 0 = _; rw [getD_set t i _ i hi, if_pos rfl]
theorem val_zero (n : Nat) : val (List.replicate n 0) = 0 := by
  unfold val
  have : ∀ k, Sc.leN (fun i => (List.replicate n (0 : Nat)).getD i 0) k = 0 := by
    intro k
    induction k with
    | zero => rfl
    | succ k ih =>
      rw [Sc.leN, ih]
      have : (List.replicate n (0 : Nat)).getD k 0 = 0 := by rw [List.getD_eq_getElem?_getD, List.getElem?_replicate]; split <;> rfl
      rw [this]; simp
  exact this _
/-- what is carried into part k -/
def car (t : List Nat) : Nat → Nat
  | 0 => 0
  | k + 1 => (car t k + t.getD k 0) / 256
theorem car_is (t : List Nat) : ∀ k, k ≤ t.length → Sc.leN (fun i => (car t i + t.getD i 0) % 256) k + car t k * 2 ^ (8 * k) = Sc.leN (fun i => t.getD i 0) k := by
  intro k
  induction k with
  | zero => intro _; simp [Sc.leN, car]
  | succ k ih =>
    intro hk
    have h := ih (by omega)
    rw [Sc.leN, Sc.leN, ← h]
    show Sc.leN _ k + (car t k + t.getD k 0) % 256 * 2 ^ (8 * k) + (car t k + t.getD k 0) / 256 * 2 ^ (8 * (k + 1)) = _
    have e : (2 : Nat) ^ (8 * (k + 1)) = 256 * 2 ^ (8 * k) := by rw [show 8 * (k + 1) = 8 * k + 8 by omega, Nat.pow_add, Nat.mul_comm]
    have e2 : (car t k + t.getD k 0) % 256 * 2 ^ (8 * k) + (car t k + t.getD k 0) / 256 * (256 * 2 ^ (8 * k)) = (car t k + t.getD k 0) * 2 ^ (8 * k) := by
      rw [← Nat.mul_assoc, ← Nat.add_mul]; congr 1; omega
    rw [e, Nat.add_assoc, e2, Nat.add_mul]; omega
theorem car_le (t : List Nat) (b : Nat) (h : ∀ i, t.getD i 0 ≤ b) : ∀ k, car t k ≤ b := by
  intro k
  induction k with
  | zero => exact Nat.zero_le _
  | succ k ih => have := h k; unfold car; omega
/-- the bytes of parts, carried -/
def carB (t : List Nat) (k : Nat) : List Nat := (List.range k).map fun i => (car t i + t.getD i 0) % 256
theorem carB_length (t : List Nat) (k : Nat) : (carB t k).length = k := by simp [carB]
theorem carB_succ (t : List Nat) (k : Nat) : carB t (k + 1) = carB t k ++ [(car t k + t.getD k 0) % 256] := by simp [carB, List.range_succ]
theorem carB_get (t : List Nat) (k i : Nat) (h : i < k) : (carB t k).getD i 0 = (car t i + t.getD i 0) % 256 := by
  unfold carB; rw [List.getD_eq_getElem?_getD, List.getElem?_map, List.getElem?_range h]; rfl
theorem carB_lt (t : List Nat) (k i : Nat) : (carB t k).getD i 0 < 256 := by
  by_cases h : i < k
  · rw [carB_get t k i h]; omega
  · rw [List.getD_eq_getElem?_getD, List.getElem?_eq_none (by rw [carB_length]; omega)]; decide
theorem carB_num (t : List Nat) (h : val t < 2 ^ (8 * t.length)) : num (carB t t.length) = val t := by
  have h1 := car_is t t.length (Nat.le_refl _)
  have h2 : Sc.leN (fun i => (carB t t.length).getD i 0) t.length = Sc.leN (fun i => (car t i + t.getD i 0) % 256) t.length := Sc.leN_congr _ _ _ fun i hi => carB_get t _ i hi
  rw [num_is _ _ (carB_length t _), h2]
  unfold val at h ⊢
  have h3 : car t t.length = 0 := by
    rcases Nat.eq_zero_or_pos (car t t.length) with h0 | h0
    · exact h0
    · have := Nat.mul_le_mul_right (2 ^ (8 * t.length)) h0
      omega
  rw [h3] at h1
  omega
end Sr
end Go.Proofs.YtmnlidfalhjghaaGreatDoor
