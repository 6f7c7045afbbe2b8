/- Numbers of parts of sixteen bits (the document's field, buttressref02): values, carries, whole parts, comparison. No program is named here. -/
import Derived.ProofKit
namespace Go.Proofs.YtjgfhihngbhljaaDoor
namespace Ns
/-- the value of parts, the lowest first -/
def V : List Nat → Nat
  | [] => 0
  | d :: r => d + 65536 * V r
theorem V_append (a b : List Nat) : V (a ++ b) = V a + 65536 ^ a.length * V b := by
  induction a with
  | nil => simp [V]
  | cons d r ih =>
    simp only [List.cons_append, V, ih, List.length_cons, Nat.pow_succ]
    rw [Nat.mul_add, ← Nat.mul_assoc, Nat.mul_comm 65536 (65536 ^ r.length)]
    omega
theorem V_set (l : List Nat) (i x : Nat) (h : i < l.length) : V (l.set i x) + 65536 ^ i * l.getD i 0 = V l + 65536 ^ i * x := by
  induction l generalizing i with
  | nil => simp at h
  | cons d r ih =>
    cases i with
    | zero => simp [V]; omega
    | succ i =>
      have := ih i (by simpa using h)
      simp only [List.set_cons_succ, V, List.getD_cons_succ, Nat.pow_succ]
      have e1 : 65536 ^ i * 65536 * r.getD i 0 = 65536 * (65536 ^ i * r.getD i 0) := by rw [Nat.mul_comm (65536 ^ i) 65536, Nat.mul_assoc]
      have e2 : 65536 ^ i * 65536 * x = 65536 * (65536 ^ i * x) := by rw [Nat.mul_comm (65536 ^ i) 65536, Nat.mul_assoc]
      rw [e1, e2]
      omega
/-- all parts whole -/
def Whole (l : List Nat) : Prop := ∀ d ∈ l, d < 65536
theorem V_lt (l : List Nat) (h : Whole l) : V l < 65536 ^ l.length := by
  induction l with
  | nil => simp [V]
  | cons d r ih =>
    have h1 := h d (by simp)
    have h2 := ih (fun x hx => h x (by simp [hx]))
    simp only [V, List.length_cons, Nat.pow_succ]
    omega
/-- whole parts are told by their value -/
theorem V_inj (a b : List Nat) (ha : Whole a) (hb : Whole b) (hl : a.length = b.length) (h : V a = V b) : a = b := by
  induction a generalizing b with
  | nil => cases b with
    | nil => rfl
    | cons => simp at hl
  | cons d r ih =>
    cases b with
    | nil => simp at hl
    | cons e s =>
      have h1 := ha d (by simp)
      have h2 := hb e (by simp)
      simp only [V] at h
      have e1 : d = e := by omega
      have e2 : V r = V s := by omega
      rw [e1, ih s (fun x hx => ha x (by simp [hx])) (fun x hx => hb x (by simp [hx])) (by simpa using hl) e2]
/-- a carry into the next part keeps the value -/
theorem V_carry (l : List Nat) (i : Nat) (h : i + 1 < l.length) : V ((l.set i (l.getD i 0 % 65536)).set (i + 1) (l.getD (i + 1) 0 + l.getD i 0 / 65536)) = V l := by
  have h1 := V_set l i (l.getD i 0 % 65536) (by omega)
  have h2 := V_set (l.set i (l.getD i 0 % 65536)) (i + 1) (l.getD (i + 1) 0 + l.getD i 0 / 65536) (by rw [List.length_set]; exact h)
  have e : (l.set i (l.getD i 0 % 65536)).getD (i + 1) 0 = l.getD (i + 1) 0 := by
    rw [List.getD_eq_getElem?_getD, List.getElem?_set_ne (by omega), List.getD_eq_getElem?_getD]
  rw [e] at h2
  have e3 : l.getD i 0 = 65536 * (l.getD i 0 / 65536) + l.getD i 0 % 65536 := (Nat.div_add_mod _ _).symm
  generalize l.getD i 0 / 65536 = q at *
  generalize l.getD i 0 % 65536 = r at *
  rw [e3, Nat.mul_add] at h1
  rw [Nat.mul_add, Nat.pow_succ] at h2
  have e4 : 65536 ^ i * 65536 * q = 65536 ^ i * (65536 * q) := Nat.mul_assoc _ _ _
  omega
/-- behind the carries of one pass: what is left, and what goes back to the lowest part -/
theorem pass_end (l : List Nat) (n : Nat) (hl : l.length = n + 1) (h : ∀ i, i < n → l.getD i 0 < 65536) :
    V (l.set n (l.getD n 0 % 65536)) = V l % 65536 ^ (n + 1) ∧ l.getD n 0 / 65536 = V l / 65536 ^ (n + 1) := by
  have hw : Whole (l.set n (l.getD n 0 % 65536)) := fun d hd => by
    obtain ⟨i, hi, e⟩ := List.getElem_of_mem hd
    rw [List.length_set] at hi
    rw [List.getElem_set] at e
    split at e
    · omega
    · have := h i (by omega)
      rw [List.getD_eq_getElem?_getD, List.getElem?_eq_getElem hi] at this
      simp only [Option.getD_some] at this
      omega
  have hlt := V_lt _ hw
  rw [List.length_set, hl] at hlt
  have h1 := V_set l n (l.getD n 0 % 65536) (by omega)
  have e3 : l.getD n 0 = 65536 * (l.getD n 0 / 65536) + l.getD n 0 % 65536 := (Nat.div_add_mod _ _).symm
  generalize l.getD n 0 / 65536 = q at *
  generalize l.getD n 0 % 65536 = r at *
  generalize V (l.set n r) = d at *
  rw [e3, Nat.mul_add] at h1
  have e4 : 65536 ^ n * (65536 * q) = 65536 ^ (n + 1) * q := by rw [Nat.pow_succ, Nat.mul_assoc]
  have e5 : V l = 65536 ^ (n + 1) * q + d := by omega
  rw [e5]
  exact ⟨by rw [Nat.mul_add_mod, Nat.mod_eq_of_lt hlt], by rw [Nat.mul_add_div (by omega), Nat.div_eq_of_lt hlt]; omega⟩
/-- one pass, by values: 2^256 is 38 -/
def next (v : Nat) : Nat := v % 65536 ^ 16 + 38 * (v / 65536 ^ 16)
/-- three passes make it whole -/
theorem next_three (v : Nat) (h : v < 2 ^ 317) : next (next (next v)) < 65536 ^ 16 := by
  unfold next
  have e : (65536 ^ 16 : Nat) = 2 ^ 256 := by decide
  rw [e]
  omega
theorem next_done (v : Nat) (h : v < 65536 ^ 16) : next v = v := by
  unfold next
  rw [Nat.mod_eq_of_lt h, Nat.div_eq_of_lt h]; omega
/-- it is the same number -/
theorem next_mod (v : Nat) : next v % (2 ^ 255 - 19) = v % (2 ^ 255 - 19) := by
  unfold next
  have e : (65536 ^ 16 : Nat) = 2 ^ 256 := by decide
  rw [e]
  have h := Nat.div_add_mod v (2 ^ 256)
  generalize v / 2 ^ 256 = q at *
  generalize v % 2 ^ 256 = r at *
  subst h
  omega
/-- a number cut at a part -/
theorem V_split (l : List Nat) (i : Nat) (h : i < l.length) : V l = V (l.take i) + 65536 ^ i * (l.getD i 0 + 65536 * V (l.drop (i + 1))) := by
  have e : l = l.take i ++ (l.getD i 0 :: l.drop (i + 1)) := by
    rw [List.getD_eq_getElem?_getD, List.getElem?_eq_getElem h, Option.getD_some, ← List.drop_eq_getElem_cons h, List.take_append_drop]
  have h2 := V_append (l.take i) (l.getD i 0 :: l.drop (i + 1))
  rw [← e, List.length_take, Nat.min_eq_left (by omega)] at h2
  exact h2
theorem whole_take {l : List Nat} (h : Whole l) (i : Nat) : Whole (l.take i) := fun d hd => h d (List.mem_of_mem_take hd)
/-- the highest part that differs decides -/
theorem V_less (a b : List Nat) (i : Nat) (ha : Whole a) (hia : i < a.length) (hib : i < b.length) (he : a.drop (i + 1) = b.drop (i + 1)) (hl : a.getD i 0 < b.getD i 0) : V a < V b := by
  rw [V_split a i hia, V_split b i hib, he]
  have h1 := V_lt (a.take i) (whole_take ha i)
  rw [List.length_take, Nat.min_eq_left (by omega)] at h1
  generalize V (b.drop (i + 1)) = x
  generalize a.getD i 0 = u at *
  generalize b.getD i 0 = v at *
  generalize V (a.take i) = y at *
  generalize V (b.take i) = z
  have h2 : 65536 ^ i * (u + 1 + 65536 * x) ≤ 65536 ^ i * (v + 65536 * x) := Nat.mul_le_mul_left _ (by omega)
  have h3 : 65536 ^ i * (u + 1 + 65536 * x) = 65536 ^ i * (u + 65536 * x) + 65536 ^ i := by rw [show u + 1 + 65536 * x = (u + 65536 * x) + 1 by omega, Nat.mul_add, Nat.mul_one]
  omega
/-- one part of a difference, with what is borrowed -/
theorem sub_part (t p b : Nat) (ht : t < 65536) (hp : p < 65536) (hb : b ≤ 1) :
    let x := t + 65536 - p - b
    x < 131072 ∧ x % 65536 < 65536 ∧ 1 - x / 65536 ≤ 1 ∧ x % 65536 + p + b = t + 65536 * (1 - x / 65536) := by
  intro x
  have hx : x = t + 65536 - p - b := rfl
  omega
/-- a difference, part by part: the first i parts -/
theorem sub_next {i o t p b b' A B C : Nat} (h : A + B = C + 65536 ^ i * b) (hs : o + p + b = t + 65536 * b') :
    (A + 65536 ^ i * o) + (B + 65536 ^ i * p) = (C + 65536 ^ i * t) + 65536 ^ (i + 1) * b' := by
  have h2 : 65536 ^ i * (o + p + b) = 65536 ^ i * (t + 65536 * b') := by rw [hs]
  rw [Nat.mul_add, Nat.mul_add, Nat.mul_add, ← Nat.mul_assoc] at h2
  rw [Nat.pow_succ]
  omega
theorem V_take_succ (l : List Nat) (i : Nat) (h : i < l.length) : V (l.take (i + 1)) = V (l.take i) + 65536 ^ i * l.getD i 0 := by
  have e : l.take (i + 1) = l.take i ++ [l.getD i 0] := by
    rw [List.take_succ_eq_append_getElem h, List.getD_eq_getElem?_getD, List.getElem?_eq_getElem h, Option.getD_some]
  rw [e, V_append, List.length_take, Nat.min_eq_left (by omega)]
  simp [V]
/-- a part's product goes where it belongs: below 2^256 .. -/
theorem mul_low (t : List Nat) (j x : Nat) (h : j < t.length) : V (t.set j (t.getD j 0 + x)) = V t + 65536 ^ j * x := by
  have := V_set t j (t.getD j 0 + x) h
  rw [Nat.mul_add] at this
  omega
/-- .. and above it 38 times sixteen parts lower: the same number -/
theorem mul_high (j x : Nat) : (65536 ^ j * (38 * x)) % (2 ^ 255 - 19) = (65536 ^ (j + 16) * x) % (2 ^ 255 - 19) := by
  have e : (65536 : Nat) ^ (j + 16) * x = 65536 ^ j * x * 2 ^ 256 := by
    rw [Nat.pow_add, show (65536 : Nat) ^ 16 = 2 ^ 256 by decide, Nat.mul_assoc, Nat.mul_comm (2 ^ 256) x, ← Nat.mul_assoc]
  have e2 : (65536 : Nat) ^ j * (38 * x) = 65536 ^ j * x * 38 := by rw [Nat.mul_comm 38 x, Nat.mul_assoc]
  rw [e, e2]
  generalize 65536 ^ j * x = z
  omega
/-- p's parts -/
def Pp : List Nat := 65517 :: (List.replicate 14 65535 ++ [32767])
theorem Pp_V : V Pp = 2 ^ 255 - 19 := by decide
theorem Pp_whole : Whole Pp := by unfold Whole Pp; decide
/-- a bit of the value is a bit of a part -/
theorem V_bit (l : List Nat) (k : Nat) (hw : Whole l) (h : k / 16 < l.length) : V l / 2 ^ k % 2 = l.getD (k / 16) 0 / 2 ^ (k % 16) % 2 := by
  have h1 := V_split l (k / 16) h
  have h2 := V_lt (l.take (k / 16)) (whole_take hw _)
  rw [List.length_take, Nat.min_eq_left (by omega)] at h2
  generalize V (l.take (k / 16)) = A at *
  generalize V (l.drop (k / 16 + 1)) = R at *
  generalize l.getD (k / 16) 0 = d at *
  have e1 : (2 : Nat) ^ k = 65536 ^ (k / 16) * 2 ^ (k % 16) := by
    rw [show (65536 : Nat) = 2 ^ 16 by decide, ← Nat.pow_mul, ← Nat.pow_add, Nat.div_add_mod]
  have e2 : V l / 65536 ^ (k / 16) = d + 65536 * R := by
    rw [h1, Nat.add_comm A, Nat.mul_add_div (Nat.pow_pos (by omega)), Nat.div_eq_of_lt h2, Nat.add_zero]
  rw [e1, ← Nat.div_div_eq_div_mul, e2]
  have h16 : k % 16 < 16 := Nat.mod_lt _ (by omega)
  generalize k % 16 = r at *
  obtain ⟨s, hs⟩ : ∃ s, 16 = r + (s + 1) := ⟨15 - r, by omega⟩
  have e3 : (65536 : Nat) = 2 ^ r * (2 * 2 ^ s) := by
    rw [show (65536 : Nat) = 2 ^ 16 by decide, hs, Nat.pow_add, Nat.pow_succ, Nat.mul_comm (2 ^ s) 2]
  rw [e3, Nat.mul_assoc, Nat.add_comm d, Nat.mul_add_div (Nat.pow_pos (by omega)), Nat.mul_assoc, Nat.mul_add_mod]
/-- limbs of 51 bits, bit by bit: the limb that the bit goes to -/
theorem limb_this (v k : Nat) : v % 2 ^ (k + 1) / 2 ^ (51 * (k / 51)) = v % 2 ^ k / 2 ^ (51 * (k / 51)) + 2 ^ (k % 51) * (v / 2 ^ k % 2) ∧ v % 2 ^ k / 2 ^ (51 * (k / 51)) < 2 ^ (k % 51) := by
  have e1 : (2 : Nat) ^ k = 2 ^ (51 * (k / 51)) * 2 ^ (k % 51) := by rw [← Nat.pow_add, Nat.div_add_mod]
  have hp : 0 < (2 : Nat) ^ (51 * (k / 51)) := Nat.pow_pos (by omega)
  have hp2 : 0 < (2 : Nat) ^ (k % 51) := Nat.pow_pos (by omega)
  constructor
  · rw [Nat.mod_pow_succ]
    have e2 : 2 ^ k * (v / 2 ^ k % 2) = 2 ^ (51 * (k / 51)) * (2 ^ (k % 51) * (v / 2 ^ k % 2)) := by
      generalize v / 2 ^ k % 2 = b
      rw [e1, Nat.mul_assoc]
    rw [e2, Nat.add_mul_div_left _ _ hp]
  · rw [e1, Nat.mod_mul_right_div_self]
    exact Nat.mod_lt _ hp2
/-- .. those that are done -/
theorem limb_done (v k j : Nat) (h : 51 * (j + 1) ≤ k) : v % 2 ^ k / 2 ^ (51 * j) % 2 ^ 51 = v / 2 ^ (51 * j) % 2 ^ 51 := by
  obtain ⟨s, hs⟩ : ∃ s, k = 51 * j + (51 + s) := ⟨k - (51 * j + 51), by omega⟩
  rw [hs, Nat.pow_add 2 (51 * j), Nat.mod_mul_right_div_self, Nat.pow_add 2 51, Nat.mod_mul_right_mod]
/-- .. those to come -/
theorem limb_new (v k j : Nat) (h : k ≤ 51 * j) : v % 2 ^ k / 2 ^ (51 * j) = 0 :=
  Nat.div_eq_of_lt (Nat.lt_of_lt_of_le (Nat.mod_lt _ (Nat.pow_pos (by omega))) (Nat.pow_le_pow_right (by omega) h))
/-- five limbs are the number -/
theorem limbs_five (v : Nat) (h : v < 2 ^ 255) : v % 2 ^ 51 + 2 ^ 51 * (v / 2 ^ 51 % 2 ^ 51) + 2 ^ 102 * (v / 2 ^ 102 % 2 ^ 51) + 2 ^ 153 * (v / 2 ^ 153 % 2 ^ 51) + 2 ^ 204 * (v / 2 ^ 204 % 2 ^ 51) = v := by
  omega
theorem set_getD (l : List Nat) (i j x : Nat) (h : i < l.length) : (l.set i x).getD j 0 = if j = i then x else l.getD j 0 := by
  rw [List.getD_eq_getElem?_getD, List.getElem?_set, List.getD_eq_getElem?_getD]
  by_cases e : i = j
  · subst e; simp [h]
  · rw [if_neg e, if_neg (fun h => e h.symm)]
theorem whole_of {l : List Nat} (h : ∀ j, j < l.length → l.getD j 0 < 65536) : Whole l := fun d hd => by
  obtain ⟨i, hi, e⟩ := List.getElem_of_mem hd
  have := h i hi
  rw [List.getD_eq_getElem?_getD, List.getElem?_eq_getElem hi, Option.getD_some, e] at this
  exact this
theorem of_whole {l : List Nat} (h : Whole l) (j : Nat) : l.getD j 0 < 65536 := by
  rw [List.getD_eq_getElem?_getD]
  cases e : l[j]? with
  | none => simp
  | some d => exact h d (List.mem_of_getElem? e)
theorem V_big (l : List Nat) (h : ∀ d ∈ l, d < 2 ^ 60) : V l + 2 ^ 61 ≤ 2 ^ 61 * 65536 ^ l.length := by
  induction l with
  | nil => simp [V]
  | cons d r ih =>
    have h1 := h d (by simp)
    have h2 := ih (fun x hx => h x (by simp [hx]))
    simp only [V, List.length_cons, Nat.pow_succ]
    omega
/-- amid a pass of carries, from l0: the parts below i are whole -/
structure Amid (l0 l : List Nat) (i : Nat) : Prop where
  len : l.length = 16
  val : V l = V l0
  done : ∀ j, j < i → l.getD j 0 < 65536
  here : l.getD i 0 < l0.getD i 0 + 2 ^ 45
  rest : ∀ j, i < j → l.getD j 0 = l0.getD j 0
theorem Amid.start (l0 : List Nat) (h : l0.length = 16) : Amid l0 l0 0 := ⟨h, rfl, fun j hj => by omega, by omega, fun _ _ => rfl⟩
theorem Amid.next {l0 l : List Nat} {i : Nat} (h : Amid l0 l i) (hi : i < 15) (hb : l0.getD i 0 < 2 ^ 60) :
    Amid l0 ((l.set i (l.getD i 0 % 65536)).set (i + 1) (l.getD (i + 1) 0 + l.getD i 0 / 65536)) (i + 1) := by
  have hl := h.len
  have hh := h.here
  refine ⟨by simp [hl], (V_carry l i (by omega)).trans h.val, fun j hj => ?_, ?_, fun j hj => ?_⟩
  · rw [set_getD _ _ _ _ (by simp; omega), if_neg (by omega), set_getD _ _ _ _ (by omega)]
    split
    · omega
    · exact h.done j (by omega)
  · rw [set_getD _ _ _ _ (by simp; omega), if_pos rfl, h.rest (i + 1) (by omega)]
    omega
  · rw [set_getD _ _ _ _ (by simp; omega), if_neg (by omega), set_getD _ _ _ _ (by omega), if_neg (by omega), h.rest j (by omega)]
/-- parts that are carried: below 2^60, all but the lowest whole -/
structure Parts (v : Nat) (l : List Nat) : Prop where
  len : l.length = 16
  val : V l = v
  low : l.getD 0 0 < 2 ^ 60
  high : ∀ j, 0 < j → l.getD j 0 < 65536
theorem Amid.last {l0 l : List Nat} (h : Amid l0 l 15) (hb : l0.getD 15 0 < 2 ^ 60) :
    let r := (l.set 15 (l.getD 15 0 % 65536)).set 0 ((l.set 15 (l.getD 15 0 % 65536)).getD 0 0 + 38 * (l.getD 15 0 / 65536))
    Parts (Ns.next (V l0)) r ∧ (V l0 < 65536 ^ 16 → Whole r) := by
  intro r
  have hl := h.len
  have hh := h.here
  obtain ⟨e1, e2⟩ := pass_end l 15 hl h.done
  have h0 : (l.set 15 (l.getD 15 0 % 65536)).getD 0 0 = l.getD 0 0 := by rw [set_getD _ _ _ _ (by omega), if_neg (by omega)]
  have hd := h.done 0 (by omega)
  have hlen : (l.set 15 (l.getD 15 0 % 65536)).length = 16 := by simp [hl]
  have hhigh : ∀ j, 0 < j → r.getD j 0 < 65536 := fun j hj => by
    show ((l.set 15 (l.getD 15 0 % 65536)).set 0 _).getD j 0 < 65536
    rw [set_getD _ _ _ _ (by omega), if_neg (by omega), set_getD _ _ _ _ (by omega)]
    split
    · omega
    · by_cases hj2 : j < 15
      · exact h.done j hj2
      · rw [List.getD_eq_getElem?_getD, List.getElem?_eq_none (by omega)]; decide
  have hr0 : r.getD 0 0 = l.getD 0 0 + 38 * (l.getD 15 0 / 65536) := by
    show ((l.set 15 (l.getD 15 0 % 65536)).set 0 _).getD 0 0 = _
    rw [set_getD _ _ _ _ (by omega), if_pos rfl, h0]
  have hv : V r = V (l.set 15 (l.getD 15 0 % 65536)) + 38 * (l.getD 15 0 / 65536) := by
    have := mul_low (l.set 15 (l.getD 15 0 % 65536)) 0 (38 * (l.getD 15 0 / 65536)) (by omega)
    rwa [Nat.pow_zero, Nat.one_mul] at this
  rw [h.val] at e1 e2
  refine ⟨⟨by show ((l.set 15 _).set 0 _).length = 16; simp [hl], ?_, ?_, hhigh⟩, fun hs => ?_⟩
  · rw [hv, e1, e2]; rfl
  · rw [hr0]; omega
  · have ec : l.getD 15 0 / 65536 = 0 := by rw [e2]; exact Nat.div_eq_of_lt hs
    refine whole_of fun j _ => ?_
    rcases Nat.eq_zero_or_pos j with rfl | hj
    · rw [hr0, ec]; omega
    · exact hhigh j hj
/-- so many passes, by values -/
def it : Nat → Nat → Nat
  | 0, v => v
  | k + 1, v => next (it k v)
theorem it_mod (k v : Nat) : it k v % (2 ^ 255 - 19) = v % (2 ^ 255 - 19) := by
  induction k with
  | zero => rfl
  | succ k ih => rw [it, next_mod, ih]
theorem it_small (k v : Nat) (h : v < 2 ^ 317) : it (k + 3) v < 65536 ^ 16 := by
  induction k with
  | zero => exact next_three v h
  | succ k ih => rw [it, next_done _ ih]; exact ih
/-- a difference that is none below zero -/
theorem sub_end {o t B b : Nat} (ho : o < 65536 ^ 16) (h : o + B = t + 65536 ^ 16 * b) (hge : B ≤ t) : o = t - B ∧ b = 0 := by
  have e : (65536 : Nat) ^ 16 = 2 ^ 256 := by decide
  rw [e] at h ho
  omega
/-- a value's parts -/
def parts : Nat → Nat → List Nat
  | 0, _ => []
  | n + 1, v => v % 65536 :: parts n (v / 65536)
theorem parts_len (n v : Nat) : (parts n v).length = n := by
  induction n generalizing v with
  | zero => rfl
  | succ n ih => rw [parts, List.length_cons, ih]
theorem parts_whole (n v : Nat) : Whole (parts n v) := by
  induction n generalizing v with
  | zero => intro d hd; simp [parts] at hd
  | succ n ih =>
    intro d hd
    rw [parts, List.mem_cons] at hd
    rcases hd with rfl | hd
    · exact Nat.mod_lt _ (by omega)
    · exact ih _ d hd
theorem V_parts (n v : Nat) (h : v < 65536 ^ n) : V (parts n v) = v := by
  induction n generalizing v with
  | zero => simp at h; subst h; rfl
  | succ n ih =>
    rw [Nat.pow_succ] at h
    rw [parts, V, ih (v / 65536) (by omega)]
    omega
theorem parts_V (l : List Nat) (h : Whole l) : parts l.length (V l) = l :=
  V_inj _ _ (parts_whole _ _) h (parts_len _ _) (V_parts _ _ (V_lt l h))
/-- the document's number of a value: its parts, below p -/
def num (v : Nat) : List Nat := parts 16 (v % (2 ^ 255 - 19))
theorem num_V (v : Nat) : V (num v) = v % (2 ^ 255 - 19) := V_parts _ _ (Nat.lt_of_lt_of_le (Nat.mod_lt _ (by decide)) (by decide))
theorem num_of (l : List Nat) (hw : Whole l) (hl : l.length = 16) (h : V l < 2 ^ 255 - 19) : l = num (V l) := by
  unfold num
  rw [Nat.mod_eq_of_lt h, ← hl, parts_V l hw]
theorem num_congr {u v : Nat} (h : u % (2 ^ 255 - 19) = v % (2 ^ 255 - 19)) : num u = num v := by unfold num; rw [h]
/-- what is left of a number below 2^256 when p is taken off while it is there -/
theorem off_mod (t : Nat) : (t - (2 ^ 255 - 19)) % (2 ^ 255 - 19) = t % (2 ^ 255 - 19) ∨ t < 2 ^ 255 - 19 := by omega
/-- a product, part by part -/
theorem mul_step {T S i k a b B : Nat} (h : T % (2 ^ 255 - 19) = (S + 65536 ^ i * a * B) % (2 ^ 255 - 19)) :
    (T + 65536 ^ (i + k) * (a * b)) % (2 ^ 255 - 19) = (S + 65536 ^ i * a * (B + 65536 ^ k * b)) % (2 ^ 255 - 19) := by
  have e : 65536 ^ i * a * (B + 65536 ^ k * b) = 65536 ^ i * a * B + 65536 ^ (i + k) * (a * b) := by
    rw [Nat.mul_add, Nat.pow_add]
    congr 1
    rw [Nat.mul_assoc, Nat.mul_assoc, Nat.mul_left_comm a]
  rw [e, ← Nat.add_assoc, Nat.add_mod, h, ← Nat.add_mod]
theorem mul_step_high {T S i k a b B : Nat} (hik : 16 ≤ i + k) (h : T % (2 ^ 255 - 19) = (S + 65536 ^ i * a * B) % (2 ^ 255 - 19)) :
    (T + 65536 ^ (i + k - 16) * (38 * a * b)) % (2 ^ 255 - 19) = (S + 65536 ^ i * a * (B + 65536 ^ k * b)) % (2 ^ 255 - 19) := by
  rw [← mul_step (k := k) (b := b) h, Nat.add_mod, Nat.mul_assoc 38, mul_high, show i + k - 16 + 16 = i + k by omega, ← Nat.add_mod]
theorem mul_row (l : List Nat) (i B : Nat) (h : i < l.length) : V (l.take i) * B + 65536 ^ i * l.getD i 0 * B = V (l.take (i + 1)) * B := by
  rw [V_take_succ l i h, Nat.add_mul]
/-- a power, bit by bit from above -/
theorem pow_step (a v b : Nat) : a ^ (v / 2 ^ b) = a ^ (v / 2 ^ (b + 1)) * a ^ (v / 2 ^ (b + 1)) * a ^ (v / 2 ^ b % 2) := by
  have e : v / 2 ^ b = v / 2 ^ (b + 1) + v / 2 ^ (b + 1) + v / 2 ^ b % 2 := by
    rw [Nat.pow_succ, ← Nat.div_div_eq_div_mul]
    omega
  rw [← Nat.pow_add, ← Nat.pow_add, ← e]
theorem pow_begin (a v : Nat) (h : v < 2 ^ 256) : a ^ (v / 2 ^ 256) = 1 := by rw [Nat.div_eq_of_lt h, Nat.pow_zero]
end Ns
end Go.Proofs.YtjgfhihngbhljaaDoor
