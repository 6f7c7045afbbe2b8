/- texts merged, part 1: XNsM XFlow XFlow2 XFlow3 XShaMem XOwn XFlowG XFlowS XNrM XNrLess XNrLessP XRowsAt XFlowTB XNrWhole XNrAdd XNrMul XNrSub XNrFrom -/
import Derived.ProofKit
import Derived.Orders
import Derived.WalkKit
import Derived.Lib.Hide
import Derived.WalkSmall
import Derived.Laws.Rows
import Derived.Laws.Tables
import Derived.Test.YtcmnecnbcohaeaaGreatDoorProg
import Derived.Laws.AppendOwn
import Derived.Laws.OwnMore
import Derived.Deep.MidRow
import Derived.BigRegion
import Derived.RegionTactic
import Derived.Sort.CutIn
import Derived.Deep.QuietTactic
import Derived.BigQuiet
import Derived.Laws.BitsAllLaws
/- Numbers of parts of sixteen bits (the document's field, buttressref02): values, carries, whole parts, comparison. No program is named here. -/
namespace Go.Proofs.YtcmnecnbcohaeaaGreatDoor
namespace Ns
/-- the value of parts, the lowest first -/
def V : List Nat → Nat
  | [] => 0
  | d :: r => d + 65536 * V r
theorem V_append (a b : List Nat) : V (a ++ b) = V a + 65536 ^ a.length * V b := by
  induction a with
  | nil => simp [V]
  | cons d r ih =>
    simp only [List.cons_append, V, ih, List.length_cons, Nat.pow_succ]
    rw [Nat.mul_add, ← Nat.mul_assoc, Nat.mul_comm 65536 (65536 ^ r.length)]
    omega
theorem V_set (l : List Nat) (i x : Nat) (h : i < l.length) : V (l.set i x) + 65536 ^ i * l.getD i 0 = V l + 65536 ^ i * x := by
  induction l generalizing i with
  | nil => simp at h
  | cons d r ih =>
    cases i with
    | zero => simp [V]; omega
    | succ i =>
      have := ih i (by simpa using h)
      simp only [List.set_cons_succ, V, List.getD_cons_succ, Nat.pow_succ]
      have e1 : 65536 ^ i * 65536 * r.getD i 0 = 65536 * (65536 ^ i * r.getD i 0) := by rw [Nat.mul_comm (65536 ^ i) 65536, Nat.mul_assoc]
      have e2 : 65536 ^ i * 65536 * x = 65536 * (65536 ^ i * x) := by rw [Nat.mul_comm (65536 ^ i) 65536, Nat.mul_assoc]
      rw [e1, e2]
      omega
/-- all parts whole -/
def Whole (l : List Nat) : Prop := ∀ d ∈ l, d < 65536
theorem V_lt (l : List Nat) (h : Whole l) : V l < 65536 ^ l.length := by
  induction l with
  | nil => simp [V]
  | cons d r ih =>
    have h1 := h d (by simp)
    have h2 := ih (fun x hx => h x (by simp [hx]))
    simp only [V, List.length_cons, Nat.pow_succ]
    omega
/-- whole parts are told by their value -/
theorem V_inj (a b : List Nat) (ha : Whole a) (hb : Whole b) (hl : a.length = b.length) (h : V a = V b) : a = b := by
  induction a generalizing b with
  | nil => cases b with
    | nil => rfl
    | cons => simp at hl
  | cons d r ih =>
    cases b with
    | nil => simp at hl
    | cons e s =>
      have h1 := ha d (by simp)
      have h2 := hb e (by simp)
      simp only [V] at h
      have e1 : d = e := by omega
      have e2 : V r = V s := by omega
      rw [e1, ih s (fun x hx => ha x (by simp [hx])) (fun x hx => hb x (by simp [hx])) (by simpa using hl) e2]
/-- a carry into the next part keeps the value -/
theorem V_carry (l : List Nat) (i : Nat) (h : i + 1 < l.length) : V ((l.set i (l.getD i 0 % 65536)).set (i + 1) (l.getD (i + 1) 0 + l.getD i 0 / 65536)) = V l := by
  have h1 := V_set l i (l.getD i 0 % 65536) (by omega)
  have h2 := V_set (l.set i (l.getD i 0 % 65536)) (i + 1) (l.getD (i + 1) 0 + l.getD i 0 / 65536) (by rw [List.length_set]; exact h)
  have e : (l.set i (l.getD i 0 % 65536)).getD (i + 1) 0 = l.getD (i + 1) 0 := by
    rw [List.getD_eq_getElem?_getD, List.getElem?_set_ne (by omega), List.getD_eq_getElem?_getD]
  rw [e] at h2
  have e3 : l.getD i 0 = 65536 * (l.getD i 0 / 65536) + l.getD i 0 % 65536 := (Nat.div_add_mod _ _).symm
  generalize l.getD i 0 / 65536 = q at *
  generalize l.getD i 0 % 65536 = r at *
  rw [e3, Nat.mul_add] at h1
  rw [Nat.mul_add, Nat.pow_succ] at h2
  have e4 : 65536 ^ i * 65536 * q = 65536 ^ i * (65536 * q) := Nat.mul_assoc _ _ _
  omega
/-- behind the carries of one pass: what is left, and what goes back to the lowest part -/
theorem pass_end (l : List Nat) (n : Nat) (hl : l.length = n + 1) (h : ∀ i, i < n → l.getD i 0 < 65536) :
    V (l.set n (l.getD n 0 % 65536)) = V l % 65536 ^ (n + 1) ∧ l.getD n 0 / 65536 = V l / 65536 ^ (n + 1) := by
  have hw : Whole (l.set n (l.getD n 0 % 65536)) := fun d hd => by
    obtain ⟨i, hi, e⟩ := List.getElem_of_mem hd
    rw [List.length_set] at hi
    rw [List.getElem_set] at e
    split at e
    · omega
    · have := h i (by omega)
      rw [List.getD_eq_getElem?_getD, List.getElem?_eq_getElem hi] at this
      simp only [Option.getD_some] at this
      omega
  have hlt := V_lt _ hw
  rw [List.length_set, hl] at hlt
  have h1 := V_set l n (l.getD n 0 % 65536) (by omega)
  have e3 : l.getD n 0 = 65536 * (l.getD n 0 / 65536) + l.getD n 0 % 65536 := (Nat.div_add_mod _ _).symm
  generalize l.getD n 0 / 65536 = q at *
  generalize l.getD n 0 % 65536 = r at *
  generalize V (l.set n r) = d at *
  rw [e3, Nat.mul_add] at h1
  have e4 : 65536 ^ n * (65536 * q) = 65536 ^ (n + 1) * q := by rw [Nat.pow_succ, Nat.mul_assoc]
  have e5 : V l = 65536 ^ (n + 1) * q + d := by omega
  rw [e5]
  exact ⟨by rw [Nat.mul_add_mod, Nat.mod_eq_of_lt hlt], by rw [Nat.mul_add_div (by omega), Nat.div_eq_of_lt hlt]; omega⟩
/-- one pass, by values: 2^256 is 38 -/
def next (v : Nat) : Nat := v % 65536 ^ 16 + 38 * (v / 65536 ^ 16)
/-- three passes make it whole -/
theorem next_three (v : Nat) (h : v < 2 ^ 317) : next (next (next v)) < 65536 ^ 16 := by
  unfold next
  have e : (65536 ^ 16 : Nat) = 2 ^ 256 := by decide
  rw [e]
  omega
theorem next_done (v : Nat) (h : v < 65536 ^ 16) : next v = v := by
  unfold next
  rw [Nat.mod_eq_of_lt h, Nat.div_eq_of_lt h]; omega
/-- it is the same number -/
theorem next_mod (v : Nat) : next v % (2 ^ 255 - 19) = v % (2 ^ 255 - 19) := by
  unfold next
  have e : (65536 ^ 16 : Nat) = 2 ^ 256 := by decide
  rw [e]
  have h := Nat.div_add_mod v (2 ^ 256)
  generalize v / 2 ^ 256 = q at *
  generalize v % 2 ^ 256 = r at *
  subst h
  omega
/-- a number cut at a part -/
theorem V_split (l : List Nat) (i : Nat) (h : i < l.length) : V l = V (l.take i) + 65536 ^ i * (l.getD i 0 + 65536 * V (l.drop (i + 1))) := by
  have e : l = l.take i ++ (l.getD i 0 :: l.drop (i + 1)) := by
    rw [List.getD_eq_getElem?_getD, List.getElem?_eq_getElem h, Option.getD_some, ← List.drop_eq_getElem_cons h, List.take_append_drop]
  have h2 := V_append (l.take i) (l.getD i 0 :: l.drop (i + 1))
  rw [← e, List.length_take, Nat.min_eq_left (by omega)] at h2
  exact h2
theorem whole_take {l : List Nat} (h : Whole l) (i : Nat) : Whole (l.take i) := fun d hd => h d (List.mem_of_mem_take hd)
/-- the highest part that differs decides -/
theorem V_less (a b : List Nat) (i : Nat) (ha : Whole a) (hia : i < a.length) (hib : i < b.length) (he : a.drop (i + 1) = b.drop (i + 1)) (hl : a.getD i 0 < b.getD i 0) : V a < V b := by
  rw [V_split a i hia, V_split b i hib, he]
  have h1 := V_lt (a.take i) (whole_take ha i)
  rw [List.length_take, Nat.min_eq_left (by omega)] at h1
  generalize V (b.drop (i + 1)) = x
  generalize a.getD i 0 = u at *
  generalize b.getD i 0 = v at *
  generalize V (a.take i) = y at *
  generalize V (b.take i) = z
  have h2 : 65536 ^ i * (u + 1 + 65536 * x) ≤ 65536 ^ i * (v + 65536 * x) := Nat.mul_le_mul_left _ (by omega)
  have h3 : 65536 ^ i * (u + 1 + 65536 * x) = 65536 ^ i * (u + 65536 * x) + 65536 ^ i := by rw [show u + 1 + 65536 * x = (u + 65536 * x) + 1 by omega, Nat.mul_add, Nat.mul_one]
  omega
/-- one part of a difference, with what is borrowed -/
theorem sub_part (t p b : Nat) (ht : t < 65536) (hp : p < 65536) (hb : b ≤ 1) :
    let x := t + 65536 - p - b
    x < 131072 ∧ x % 65536 < 65536 ∧ 1 - x / 65536 ≤ 1 ∧ x % 65536 + p + b = t + 65536 * (1 - x / 65536) := by
  intro x
  have hx : x = t + 65536 - p - b := rfl
  omega
/-- a difference, part by part: the first i parts -/
theorem sub_next {i o t p b b' A B C : Nat} (h : A + B = C + 65536 ^ i * b) (hs : o + p + b = t + 65536 * b') :
    (A + 65536 ^ i * o) + (B + 65536 ^ i * p) = (C + 65536 ^ i * t) + 65536 ^ (i + 1) * b' := by
  have h2 : 65536 ^ i * (o + p + b) = 65536 ^ i * (t + 65536 * b') := by rw [hs]
  rw [Nat.mul_add, Nat.mul_add, Nat.mul_add, ← Nat.mul_assoc] at h2
  rw [Nat.pow_succ]
  omega
theorem V_take_succ (l : List Nat) (i : Nat) (h : i < l.length) : V (l.take (i + 1)) = V (l.take i) + 65536 ^ i * l.getD i 0 := by
  have e : l.take (i + 1) = l.take i ++ [l.getD i 0] := by
    rw [List.take_succ_eq_append_getElem h, List.getD_eq_getElem?_getD, List.getElem?_eq_getElem h, Option.getD_some]
  rw [e, V_append, List.length_take, Nat.min_eq_left (by omega)]
  simp [V]
/-- a part's product goes where it belongs: below 2^256 .. -/
theorem mul_low (t : List Nat) (j x : Nat) (h : j < t.length) : V (t.set j (t.getD j 0 + x)) = V t + 65536 ^ j * x := by
  have := V_set t j (t.getD j 0 + x) h
  rw [Nat.mul_add] at this
  omega
/-- .. and above it 38 times sixteen parts lower: the same number -/
theorem mul_high (j x : Nat) : (65536 ^ j * (38 * x)) % (2 ^ 255 - 19) = (65536 ^ (j + 16) * x) % (2 ^ 255 - 19) := by
  have e : (65536 : Nat) ^ (j + 16) * x = 65536 ^ j * x * 2 ^ 256 := by
    rw [Nat.pow_add, show (65536 : Nat) ^ 16 = 2 ^ 256 by decide, Nat.mul_assoc, Nat.mul_comm (2 ^ 256) x, ← Nat.mul_assoc]
  have e2 : (65536 : Nat) ^ j * (38 * x) = 65536 ^ j * x * 38 := by rw [Nat.mul_comm 38 x, Nat.mul_assoc]
  rw [e, e2]
  generalize 65536 ^ j * x = z
  omega
/-- p's parts -/
def Pp : List Nat := 65517 :: (List.replicate 14 65535 ++ [32767])
theorem Pp_V : V Pp = 2 ^ 255 - 19 := by decide
theorem Pp_whole : Whole Pp := by unfold Whole Pp; decide
/-- a bit of the value is a bit of a part -/
theorem V_bit (l : List Nat) (k : Nat) (hw : Whole l) (h : k / 16 < l.length) : V l / 2 ^ k % 2 = l.getD (k / 16) 0 / 2 ^ (k % 16) % 2 := by
  have h1 := V_split l (k / 16) h
  have h2 := V_lt (l.take (k / 16)) (whole_take hw _)
  rw [List.length_take, Nat.min_eq_left (by omega)] at h2
  generalize V (l.take (k / 16)) = A at *
  generalize V (l.drop (k / 16 + 1)) = R at *
  generalize l.getD (k / 16) 0 = d at *
  have e1 : (2 : Nat) ^ k = 65536 ^ (k / 16) * 2 ^ (k % 16) := by
    rw [show (65536 : Nat) = 2 ^ 16 by decide, ← Nat.pow_mul, ← Nat.pow_add, Nat.div_add_mod]
  have e2 : V l / 65536 ^ (k / 16) = d + 65536 * R := by
    rw [h1, Nat.add_comm A, Nat.mul_add_div (Nat.pow_pos (by omega)), Nat.div_eq_of_lt h2, Nat.add_zero]
  rw [e1, ← Nat.div_div_eq_div_mul, e2]
  have h16 : k % 16 < 16 := Nat.mod_lt _ (by omega)
  generalize k % 16 = r at *
  obtain ⟨s, hs⟩ : ∃ s, 16 = r + (s + 1) := ⟨15 - r, by omega⟩
  have e3 : (65536 : Nat) = 2 ^ r * (2 * 2 ^ s) := by
    rw [show (65536 : Nat) = 2 ^ 16 by decide, hs, Nat.pow_add, Nat.pow_succ, Nat.mul_comm (2 ^ s) 2]
  rw [e3, Nat.mul_assoc, Nat.add_comm d, Nat.mul_add_div (Nat.pow_pos (by omega)), Nat.mul_assoc, Nat.mul_add_mod]
/-- limbs of 51 bits, bit by bit: the limb that the bit goes to -/
theorem limb_this (v k : Nat) : v % 2 ^ (k + 1) / 2 ^ (51 * (k / 51)) = v % 2 ^ k / 2 ^ (51 * (k / 51)) + 2 ^ (k % 51) * (v / 2 ^ k % 2) ∧ v % 2 ^ k / 2 ^ (51 * (k / 51)) < 2 ^ (k % 51) := by
  have e1 : (2 : Nat) ^ k = 2 ^ (51 * (k / 51)) * 2 ^ (k % 51) := by rw [← Nat.pow_add, Nat.div_add_mod]
  have hp : 0 < (2 : Nat) ^ (51 * (k / 51)) := Nat.pow_pos (by omega)
  have hp2 : 0 < (2 : Nat) ^ (k % 51) := Nat.pow_pos (by omega)
  constructor
  · rw [Nat.mod_pow_succ]
    have e2 : 2 ^ k * (v / 2 ^ k % 2) = 2 ^ (51 * (k / 51)) * (2 ^ (k % 51) * (v / 2 ^ k % 2)) := by
      generalize v / 2 ^ k % 2 = b
      rw [e1, Nat.mul_assoc]
    rw [e2, Nat.add_mul_div_left _ _ hp]
  · rw [e1, Nat.mod_mul_right_div_self]
    exact Nat.mod_lt _ hp2
/-- .. those that are done -/
theorem limb_done (v k j : Nat) (h : 51 * (j + 1) ≤ k) : v % 2 ^ k / 2 ^ (51 * j) % 2 ^ 51 = v / 2 ^ (51 * j) % 2 ^ 51 := by
  obtain ⟨s, hs⟩ : ∃ s, k = 51 * j + (51 + s) := ⟨k - (51 * j + 51), by omega⟩
  rw [hs, Nat.pow_add 2 (51 * j), Nat.mod_mul_right_div_self, Nat.pow_add 2 51, Nat.mod_mul_right_mod]
/-- .. those to come -/
theorem limb_new (v k j : Nat) (h : k ≤ 51 * j) : v % 2 ^ k / 2 ^ (51 * j) = 0 :=
  Nat.div_eq_of_lt (Nat.lt_of_lt_of_le (Nat.mod_lt _ (Nat.pow_pos (by omega))) (Nat.pow_le_pow_right (by omega) h))
/-- five limbs are the number -/
theorem limbs_five (v : Nat) (h : v < 2 ^ 255) : v % 2 ^ 51 + 2 ^ 51 * (v / 2 ^ 51 % 2 ^ 51) + 2 ^ 102 * (v / 2 ^ 102 % 2 ^ 51) + 2 ^ 153 * (v / 2 ^ 153 % 2 ^ 51) + 2 ^ 204 * (v / 2 ^ 204 % 2 ^ 51) = v := by
  omega
theorem set_getD (l : List Nat) (i j x : Nat) (h : i < l.length) : (l.set i x).getD j 0 = if j = i then x else l.getD j 0 := by
  rw [List.getD_eq_getElem?_getD, List.getElem?_set, List.getD_eq_getElem?_getD]
  by_cases e : i = j
  · subst e; simp [h]
  · rw [if_neg e, if_neg (fun h => e h.symm)]
theorem whole_of {l : List Nat} (h : ∀ j, j < l.length → l.getD j 0 < 65536) : Whole l := fun d hd => by
  obtain ⟨i, hi, e⟩ := List.getElem_of_mem hd
  have := h i hi
  rw [List.getD_eq_getElem?_getD, List.getElem?_eq_getElem hi, Option.getD_some, e] at this
  exact this
theorem of_whole {l : List Nat} (h : Whole l) (j : Nat) : l.getD j 0 < 65536 := by
  rw [List.getD_eq_getElem?_getD]
  cases e : l[j]? with
  | none => simp
  | some d => exact h d (List.mem_of_getElem? e)
theorem V_big (l : List Nat) (h : ∀ d ∈ l, d < 2 ^ 60) : V l + 2 ^ 61 ≤ 2 ^ 61 * 65536 ^ l.length := by
  induction l with
  | nil => simp [V]
  | cons d r ih =>
    have h1 := h d (by simp)
    have h2 := ih (fun x hx => h x (by simp [hx]))
    simp only [V, List.length_cons, Nat.pow_succ]
    omega
/-- amid a pass of carries, from l0: the parts below i are whole -/
structure Amid (l0 l : List Nat) (i : Nat) : Prop where
  len : l.length = 16
  val : V l = V l0
  done : ∀ j, j < i → l.getD j 0 < 65536
  here : l.getD i 0 < l0.getD i 0 + 2 ^ 45
  rest : ∀ j, i < j → l.getD j 0 = l0.getD j 0
theorem Amid.start (l0 : List Nat) (h : l0.length = 16) : Amid l0 l0 0 := ⟨h, rfl, fun j hj => by omega, by omega, fun _ _ => rfl⟩
theorem Amid.next {l0 l : List Nat} {i : Nat} (h : Amid l0 l i) (hi : i < 15) (hb : l0.getD i 0 < 2 ^ 60) :
    Amid l0 ((l.set i (l.getD i 0 % 65536)).set (i + 1) (l.getD (i + 1) 0 + l.getD i 0 / 65536)) (i + 1) := by
  have hl := h.len
  have hh := h.here
  refine ⟨by simp [hl], (V_carry l i (by omega)).trans h.val, fun j hj => ?_, ?_, fun j hj => ?_⟩
  · rw [set_getD _ _ _ _ (by simp; omega), if_neg (by omega), set_getD _ _ _ _ (by omega)]
    split
    · omega
    · exact h.done j (by omega)
  · rw [set_getD _ _ _ _ (by simp; omega), if_pos rfl, h.rest (i + 1) (by omega)]
    omega
  · rw [set_getD _ _ _ _ (by simp; omega), if_neg (by omega), set_getD _ _ _ _ (by omega), if_neg (by omega), h.rest j (by omega)]
/-- parts that are carried: below 2^60, all but the lowest whole -/
structure Parts (v : Nat) (l : List Nat) : Prop where
  len : l.length = 16
  val : V l = v
  low : l.getD 0 0 < 2 ^ 60
  high : ∀ j, 0 < j → l.getD j 0 < 65536
theorem Amid.last {l0 l : List Nat} (h : Amid l0 l 15) (hb : l0.getD 15 0 < 2 ^ 60) :
    let r := (l.set 15 (l.getD 15 0 % 65536)).set 0 ((l.set 15 (l.getD 15 0 % 65536)).getD 0 0 + 38 * (l.getD 15 0 / 65536))
    Parts (Ns.next (V l0)) r ∧ (V l0 < 65536 ^ 16 → Whole r) := by
  intro r
  have hl := h.len
  have hh := h.here
  obtain ⟨e1, e2⟩ := pass_end l 15 hl h.done
  have h0 : (l.set 15 (l.getD 15 0 % 65536)).getD 0 0 = l.getD 0 0 := by rw [set_getD _ _ _ _ (by omega), if_neg (by omega)]
  have hd := h.done 0 (by omega)
  have hlen : (l.set 15 (l.getD 15 0 % 65536)).length = 16 := by simp [hl]
  have hhigh : ∀ j, 0 < j → r.getD j 0 < 65536 := fun j hj => by
    show ((l.set 15 (l.getD 15 0 % 65536)).set 0 _).getD j 0 < 65536
    rw [set_getD _ _ _ _ (by omega), if_neg (by omega), set_getD _ _ _ _ (by omega)]
    split
    · omega
    · by_cases hj2 : j < 15
      · exact h.done j hj2
      · rw [List.getD_eq_getElem?_getD, List.getElem?_eq_none (by omega)]; decide
  have hr0 : r.getD 0 0 = l.getD 0 0 + 38 * (l.getD 15 0 / 65536) := by
    show ((l.set 15 (l.getD 15 0 % 65536)).set 0 _).getD 0 0 = _
    rw [set_getD _ _ _ _ (by omega), if_pos rfl, h0]
  have hv : V r = V (l.set 15 (l.getD 15 0 % 65536)) + 38 * (l.getD 15 0 / 65536) := by
    have := mul_low (l.set 15 (l.getD 15 0 % 65536)) 0 (38 * (l.getD 15 0 / 65536)) (by omega)
    rwa [Nat.pow_zero, Nat.one_mul] at this
  rw [h.val] at e1 e2
  refine ⟨⟨by show ((l.set 15 _).set 0 _).length = 16; simp [hl], ?_, ?_, hhigh⟩, fun hs => ?_⟩
  · rw [hv, e1, e2]; rfl
  · rw [hr0]; omega
  · have ec : l.getD 15 0 / 65536 = 0 := by rw [e2]; exact Nat.div_eq_of_lt hs
    refine whole_of fun j _ => ?_
    rcases Nat.eq_zero_or_pos j with rfl | hj
    · rw [hr0, ec]; omega
    · exact hhigh j hj
/-- so many passes, by values -/
def it : Nat → Nat → Nat
  | 0, v => v
  | k + 1, v => next (it k v)
theorem it_mod (k v : Nat) : it k v % (2 ^ 255 - 19) = v % (2 ^ 255 - 19) := by
  induction k with
  | zero => rfl
  | succ k ih => rw [it, next_mod, ih]
theorem it_small (k v : Nat) (h : v < 2 ^ 317) : it (k + 3) v < 65536 ^ 16 := by
  induction k with
  | zero => exact next_three v h
  | succ k ih => rw [it, next_done _ ih]; exact ih
/-- a difference that is none below zero -/
theorem sub_end {o t B b : Nat} (ho : o < 65536 ^ 16) (h : o + B = t + 65536 ^ 16 * b) (hge : B ≤ t) : o = t - B ∧ b = 0 := by
  have e : (65536 : Nat) ^ 16 = 2 ^ 256 := by decide
  rw [e] at h ho
  omega
/-- a value's parts -/
def parts : Nat → Nat → List Nat
  | 0, _ => []
  | n + 1, v => v % 65536 :: parts n (v / 65536)
theorem parts_len (n v : Nat) : (parts n v).length = n := by
  induction n generalizing v with
  | zero => rfl
  | succ n ih => rw [parts, List.length_cons, ih]
theorem parts_whole (n v : Nat) : Whole (parts n v) := by
  induction n generalizing v with
  | zero => intro d hd; simp [parts] at hd
  | succ n ih =>
    intro d hd
    rw [parts, List.mem_cons] at hd
    rcases hd with rfl | hd
    · exact Nat.mod_lt _ (by omega)
    · exact ih _ d hd
theorem V_parts (n v : Nat) (h : v < 65536 ^ n) : V (parts n v) = v := by
  induction n generalizing v with
  | zero => simp at h; subst h; rfl
  | succ n ih =>
    rw [Nat.pow_succ] at h
    rw [parts, V, ih (v / 65536) (by omega)]
    omega
theorem parts_V (l : List Nat) (h : Whole l) : parts l.length (V l) = l :=
  V_inj _ _ (parts_whole _ _) h (parts_len _ _) (V_parts _ _ (V_lt l h))
/-- the document's number of a value: its parts, below p -/
def num (v : Nat) : List Nat := parts 16 (v % (2 ^ 255 - 19))
theorem num_V (v : Nat) : V (num v) = v % (2 ^ 255 - 19) := V_parts _ _ (Nat.lt_of_lt_of_le (Nat.mod_lt _ (by decide)) (by decide))
theorem num_of (l : List Nat) (hw : Whole l) (hl : l.length = 16) (h : V l < 2 ^ 255 - 19) : l = num (V l) := by
  unfold num
  rw [Nat.mod_eq_of_lt h, ← hl, parts_V l hw]
theorem num_congr {u v : Nat} (h : u % (2 ^ 255 - 19) = v % (2 ^ 255 - 19)) : num u = num v := by unfold num; rw [h]
/-- what is left of a number below 2^256 when p is taken off while it is there -/
theorem off_mod (t : Nat) : (t - (2 ^ 255 - 19)) % (2 ^ 255 - 19) = t % (2 ^ 255 - 19) ∨ t < 2 ^ 255 - 19 := by omega
/-- a product, part by part -/
theorem mul_step {T S i k a b B : Nat} (h : T % (2 ^ 255 - 19) = (S + 65536 ^ i * a * B) % (2 ^ 255 - 19)) :
    (T + 65536 ^ (i + k) * (a * b)) % (2 ^ 255 - 19) = (S + 65536 ^ i * a * (B + 65536 ^ k * b)) % (2 ^ 255 - 19) := by
  have e : 65536 ^ i * a * (B + 65536 ^ k * b) = 65536 ^ i * a * B + 65536 ^ (i + k) * (a * b) := by
    rw [Nat.mul_add, Nat.pow_add]
    congr 1
    rw [Nat.mul_assoc, Nat.mul_assoc, Nat.mul_left_comm a]
  rw [e, ← Nat.add_assoc, Nat.add_mod, h, ← Nat.add_mod]
theorem mul_step_high {T S i k a b B : Nat} (hik : 16 ≤ i + k) (h : T % (2 ^ 255 - 19) = (S + 65536 ^ i * a * B) % (2 ^ 255 - 19)) :
    (T + 65536 ^ (i + k - 16) * (38 * a * b)) % (2 ^ 255 - 19) = (S + 65536 ^ i * a * (B + 65536 ^ k * b)) % (2 ^ 255 - 19) := by
  rw [← mul_step (k := k) (b := b) h, Nat.add_mod, Nat.mul_assoc 38, mul_high, show i + k - 16 + 16 = i + k by omega, ← Nat.add_mod]
theorem mul_row (l : List Nat) (i B : Nat) (h : i < l.length) : V (l.take i) * B + 65536 ^ i * l.getD i 0 * B = V (l.take (i + 1)) * B := by
  rw [V_take_succ l i h, Nat.add_mul]
/-- a power, bit by bit from above -/
theorem pow_step (a v b : Nat) : a ^ (v / 2 ^ b) = a ^ (v / 2 ^ (b + 1)) * a ^ (v / 2 ^ (b + 1)) * a ^ (v / 2 ^ b % 2) := by
  have e : v / 2 ^ b = v / 2 ^ (b + 1) + v / 2 ^ (b + 1) + v / 2 ^ b % 2 := by
    rw [Nat.pow_succ, ← Nat.div_div_eq_div_mul]
    omega
  rw [← Nat.pow_add, ← Nat.pow_add, ← e]
theorem pow_begin (a v : Nat) (h : v < 2 ^ 256) : a ^ (v / 2 ^ 256) = 1 := by rw [Nat.div_eq_of_lt h, Nat.pow_zero]
end Ns
end Go.Proofs.YtcmnecnbcohaeaaGreatDoor

/- A region that draws its order, by what each operation leaves in its slot: one obligation for each operation, whatever order is drawn. No program is named here. -/
namespace Go.Proofs.YtcmnecnbcohaeaaGreatDoor
open Go
section
variable {P : Program} {ops : Array Oper} {Q : Exit → Act → World → Prop} {G : Nat → Value → World → Prop} {M : Nat → World → Prop} {B : World → Prop} {Rel : World → World → Prop} {a0 : Act}

def notDst (ops : Array Oper) (d : Nat) : Bool := ops.all fun o => o.dst != some d
def isDst (ops : Array Oper) (d : Nat) : Bool := ops.any fun o => o.dst == some d
def waits (ops : Array Oper) (o : Oper) (d : Nat) : Bool := o.after.any fun e => Region.binds .any e && ((ops[e.on]?).bind (·.dst)) == some d
def waitsFor (o : Oper) (j : Nat) : Bool := o.after.any fun e => Region.binds .any e && e.on == j
/-- the state amid a region: what is listed has left in its slot, or in memory, what it should -/
structure Flow (G : Nat → Value → World → Prop) (M : Nat → World → Prop) (B : World → Prop) (a0 : Act) (ops : Array Oper) (listed : Array Bool) (a : Act) (w : World) : Prop where
  base : B w
  size : a.tmps.size = a0.tmps.size
  defers : a.defers = a0.defers
  rest : ∀ d, notDst ops d = true → a.tmps.getD d undef = a0.tmps.getD d undef
  slots : ∀ j oj d, ops[j]? = some oj → listed.getD j false = true → oj.dst = some d → G d (a.tmps.getD d undef) w
  mems : ∀ j oj, ops[j]? = some oj → listed.getD j false = true → oj.dst = none → M j w
/-- the state at one operation: what it waits for has left what it should -/
structure FlowAt (G : Nat → Value → World → Prop) (M : Nat → World → Prop) (B : World → Prop) (a0 : Act) (ops : Array Oper) (o : Oper) (a : Act) (w : World) : Prop where
  base : B w
  size : a.tmps.size = a0.tmps.size
  defers : a.defers = a0.defers
  rest : ∀ d, notDst ops d = true → a.tmps.getD d undef = a0.tmps.getD d undef
  dep : ∀ d, waits ops o d = true → G d (a.tmps.getD d undef) w
  mem : ∀ j oj, ops[j]? = some oj → waitsFor o j = true → oj.dst = none → M j w
/-- what one operation leaves -/
def FlowPost (G : Nat → Value → World → Prop) (M : Nat → World → Prop) (B : World → Prop) (Rel : World → World → Prop) (i : Nat) (o : Oper) (w : World) (v : Value) (w' : World) : Prop :=
  B w' ∧ Rel w w' ∧ match o.dst with | some d => G d v w' | none => M i w'
def FlowStep (P : Program) (Q : Exit → Act → World → Prop) (G : Nat → Value → World → Prop) (M : Nat → World → Prop) (B : World → Prop) (Rel : World → World → Prop) (a0 : Act) (ops : Array Oper) (i : Nat) (o : Oper) : Prop :=
  ∀ a w, FlowAt G M B a0 ops o a w → ops[i]? = some o → wpOp P ops Q i (fun a' w' => ∃ v, a' = a.put o.dst v ∧ FlowPost G M B Rel i o w v w') a w
def FlowSteps (P : Program) (Q : Exit → Act → World → Prop) (G : Nat → Value → World → Prop) (M : Nat → World → Prop) (B : World → Prop) (Rel : World → World → Prop) (a0 : Act) (ops : Array Oper) : Nat → List Oper → Prop
  | _, [] => True
  | i, o :: r => FlowStep P Q G M B Rel a0 ops i o ∧ FlowSteps P Q G M B Rel a0 ops (i + 1) r
theorem flowSteps_get : ∀ (l : List Oper) (i k : Nat) (o : Oper), FlowSteps P Q G M B Rel a0 ops i l → l[k]? = some o → FlowStep P Q G M B Rel a0 ops (i + k) o := by
  intro l
  induction l with
  | nil => intro i k o _ h; simp at h
  | cons x r ih =>
    intro i k o h hk
    cases k with
    | zero => simp at hk; subst hk; exact h.1
    | succ k => have := ih (i + 1) k o h.2 (by simpa using hk); rwa [show i + (k + 1) = i + 1 + k by omega]

/-- each operation waits for earlier ones alone; no slot is written twice; each slot is there -/
def topo (ops : Array Oper) : Bool := (List.range ops.size).all fun i => ((ops[i]?).map fun o => o.after.all fun e => !Region.binds .any e || decide (e.on < i)).getD true
def onceL : List (Option Tmp) → Bool
  | [] => true
  | none :: r => onceL r
  | some d :: r => r.all (· != some d) && onceL r
def once (ops : Array Oper) (n : Nat) : Bool := onceL (ops.toList.map (·.dst)) && ops.all fun o => match o.dst with | some d => decide (d < n) | none => true
theorem onceL_ne : ∀ (l : List (Option Tmp)), onceL l = true → ∀ (i j : Nat) (d d' : Tmp), l[i]? = some (some d) → l[j]? = some (some d') → i ≠ j → d ≠ d' := by
  intro l
  induction l with
  | nil => intro _ i j d d' h; simp at h
  | cons x r ih =>
    intro h i j d d' hi hj hne
    have hr : onceL r = true := by cases x with | none => exact h | some y => simp [onceL] at h; exact h.2
    cases i with
    | zero =>
      cases j with
      | zero => exact absurd rfl hne
      | succ j =>
        simp at hi hj
        subst hi
        simp [onceL] at h
        intro e
        subst e
        exact h.1 _ (List.mem_of_getElem? hj) rfl
    | succ i =>
      cases j with
      | zero =>
        simp at hi hj
        subst hj
        simp [onceL] at h
        intro e
        subst e
        exact h.1 _ (List.mem_of_getElem? hi) rfl
      | succ j => exact ih hr i j d d' (by simpa using hi) (by simpa using hj) (fun e => hne (by rw [e]))
theorem once_ne {n : Nat} (h : once ops n = true) {i j : Nat} {oi oj : Oper} (hi : ops[i]? = some oi) (hj : ops[j]? = some oj) (hne : i ≠ j) {d : Nat} (hd : oi.dst = some d) : oj.dst ≠ some d := by
  intro e
  have h1 : onceL (ops.toList.map (·.dst)) = true := by simp only [once, Bool.and_eq_true] at h; exact h.1
  refine onceL_ne _ h1 i j d d ?_ ?_ hne rfl
  · rw [List.getElem?_map, Array.getElem?_toList, hi]; simp [hd]
  · rw [List.getElem?_map, Array.getElem?_toList, hj]; simp [e]
theorem once_lt {n : Nat} (h : once ops n = true) {i : Nat} {oi : Oper} (hi : ops[i]? = some oi) {d : Nat} (hd : oi.dst = some d) : d < n := by
  simp only [once, Bool.and_eq_true] at h
  have := (Array.all_eq_true_iff_forall_mem.1 h.2) oi (Array.mem_of_getElem? hi)
  simpa [hd] using this
theorem filter_le {α : Type} (p q : α → Bool) (l : List α) (h : ∀ x, q x = true → p x = true) : (l.filter q).length ≤ (l.filter p).length := by
  induction l with
  | nil => simp
  | cons x r ih =>
    by_cases hq : q x = true
    · simp [hq, h x hq, ih]
    · by_cases hp : p x = true
      · simp [hq, hp]; omega
      · simp [hq, hp, ih]
theorem filter_lt {α : Type} (p q : α → Bool) (l : List α) (h : ∀ x, q x = true → p x = true) (x : α) (hx : x ∈ l) (hp : p x = true) (hq : q x = false) : (l.filter q).length < (l.filter p).length := by
  induction l with
  | nil => cases hx
  | cons y r ih =>
    have hle := filter_le p q r h
    rcases List.mem_cons.1 hx with e | e
    · subst e; simp [hp, hq]; omega
    · have := ih e
      by_cases hqy : q y = true
      · simp [hqy, h y hqy, this]
      · by_cases hpy : p y = true
        · simp [hqy, hpy]; omega
        · simp [hqy, hpy, this]
def unlisted (ops : Array Oper) (listed : Array Bool) : Nat := ((List.range ops.size).filter fun i => !listed.getD i true).length
theorem unlisted_lt {listed : Array Bool} {i : Nat} (h : i ∈ Region.ready .any ops listed) : unlisted ops (listed.setIfInBounds i true) < unlisted ops listed := by
  obtain ⟨h0, o, ho, _⟩ := mem_ready.1 h
  have hi : i < ops.size := by
    rcases Nat.lt_or_ge i ops.size with h' | h'
    · exact h'
    · rw [Array.getElem?_eq_none h'] at ho; cases ho
  have hset : (listed.setIfInBounds i true).getD i true = true := by
    rcases Nat.lt_or_ge i listed.size with h' | h'
    · simp [h']
    · simp [Array.getElem?_eq_none (show (listed.setIfInBounds i true).size ≤ i by simpa using h')]
  refine filter_lt _ _ _ (fun x hx => ?_) i (List.mem_range.2 hi) (by rw [h0]; rfl) (by rw [hset]; rfl)
  by_cases e : i = x
  · subst e; rw [hset] at hx; cases hx
  · rwa [getD_set_ne true e] at hx
theorem all_listed (ht : topo ops = true) {listed : Array Bool} (hs : listed.size = ops.size) (hr : Region.ready .any ops listed = []) : ∀ i, i < ops.size → listed.getD i false = true := by
  intro i
  induction i using Nat.strongRecOn with
  | _ i ih =>
    intro hi
    by_cases hl : listed.getD i false = true
    · exact hl
    have hi' : i < listed.size := by omega
    have hf : listed.getD i true = false := by
      simp [hi'] at hl ⊢; exact hl
    have : i ∈ Region.ready .any ops listed := mem_ready.2 ⟨hf, ops[i], Array.getElem?_eq_getElem hi, fun e he hb => by
      have h1 := (List.all_eq_true.1 ht) i (List.mem_range.2 hi)
      rw [Array.getElem?_eq_getElem hi] at h1
      have h2 : (ops[i].after.all fun e => !Region.binds .any e || decide (e.on < i)) = true := h1
      have h3 : e.on < i := by
        have := (Array.all_eq_true_iff_forall_mem.1 h2) e he
        simpa [hb] using this
      exact ih e.on h3 (by omega)⟩
    rw [hr] at this
    cases this
theorem flow_any (ht : topo ops = true) (ho : once ops a0.tmps.size = true) (stab : ∀ d u w w', Rel w w' → G d u w → G d u w') (stabM : ∀ j w w', Rel w w' → M j w → M j w')
    (steps : FlowSteps P Q G M B Rel a0 ops 0 ops.toList)
    (fin : ∀ a w, B w → a.tmps.size = a0.tmps.size → a.defers = a0.defers → (∀ d, notDst ops d = true → a.tmps.getD d undef = a0.tmps.getD d undef) → (∀ d, isDst ops d = true → G d (a.tmps.getD d undef) w) →
      (∀ j oj, ops[j]? = some oj → oj.dst = none → M j w) → Q .normal a w) :
    ∀ (fuel : Nat) (listed : Array Bool) (a : Act) (w : World), listed.size = ops.size → unlisted ops listed ≤ fuel → Flow G M B a0 ops listed a w → wpAny P .any ops Q fuel listed a w := by
  have inn : ∀ {j : Nat} {oj : Oper}, ops[j]? = some oj → j < ops.size := by
    intro j oj hj
    rcases Nat.lt_or_ge j ops.size with h' | h'
    · exact h'
    · rw [Array.getElem?_eq_none h'] at hj; cases hj
  have go : ∀ (listed : Array Bool) (a : Act) (w : World), listed.size = ops.size → Flow G M B a0 ops listed a w → Region.ready .any ops listed = [] → Q .normal a w := by
    intro listed a w hs hF hr
    have hall := all_listed ht hs hr
    refine fin a w hF.base hF.size hF.defers hF.rest (fun d hd => ?_) (fun j oj hj hn => hF.mems j oj hj (hall j (inn hj)) hn)
    obtain ⟨k, hk, hb⟩ := Array.any_eq_true.1 hd
    exact hF.slots k ops[k] d (Array.getElem?_eq_getElem hk) (hall k hk) (by simpa using hb)
  intro fuel
  induction fuel with
  | zero =>
    intro listed a w hs hu hF
    have hr : Region.ready .any ops listed = [] := by
      cases hc : Region.ready .any ops listed with
      | nil => rfl
      | cons x r =>
        have := unlisted_lt (ops := ops) (listed := listed) (i := x) (by rw [hc]; exact List.mem_cons_self ..)
        omega
    exact ⟨hr, go listed a w hs hF hr⟩
  | succ fuel ih =>
    intro listed a w hs hu hF
    refine ⟨go listed a w hs hF, fun i hi => ?_⟩
    obtain ⟨h0, o, hoi, hall⟩ := mem_ready.1 hi
    have hst := flowSteps_get ops.toList 0 i o steps (by rw [Array.getElem?_toList]; exact hoi)
    rw [Nat.zero_add] at hst
    have hat : FlowAt G M B a0 ops o a w := ⟨hF.base, hF.size, hF.defers, hF.rest, fun d hd => by
        obtain ⟨k, hk, hb⟩ := Array.any_eq_true.1 hd
        simp only [Bool.and_eq_true, beq_iff_eq] at hb
        have hl := hall _ (Array.getElem_mem hk) hb.1
        cases hx : ops[o.after[k].on]? with
        | none => rw [hx] at hb; cases hb.2
        | some oj => rw [hx] at hb; exact hF.slots _ oj d hx hl hb.2,
      fun j oj hj ha hn => by
        obtain ⟨k, hk, hb⟩ := Array.any_eq_true.1 ha
        simp only [Bool.and_eq_true, beq_iff_eq] at hb
        have hl := hall _ (Array.getElem_mem hk) hb.1
        rw [hb.2] at hl
        exact hF.mems j oj hj hl hn⟩
    refine wpOp_mono (fun a' w' h => ?_) (hst a w hat hoi)
    obtain ⟨v, rfl, hB, hR, hG⟩ := h
    have hlt := unlisted_lt hi
    refine ih _ _ _ (by simpa using hs) (by omega) ⟨hB, ?_, ?_, ?_, ?_, ?_⟩
    · rw [← hF.size]; cases o.dst <;> simp [Act.put]
    · rw [← hF.defers]; cases o.dst <;> simp [Act.put]
    · intro d hd
      rw [← hF.rest d hd]
      have hne : o.dst ≠ some d := by
        have := (Array.all_eq_true_iff_forall_mem.1 hd) o (Array.mem_of_getElem? hoi)
        simpa using this
      cases hod : o.dst with
      | none => rfl
      | some d' => rw [hod] at hne; simp [Act.put, Array.getElem?_setIfInBounds_ne (show d' ≠ d from fun e => hne (by rw [e]))]
    · intro j oj d hj hl hd
      by_cases e : i = j
      · subst e
        rw [hoi] at hj
        cases hj
        have hd2 := once_lt ho hoi hd
        rw [← hF.size] at hd2
        rw [hd] at hG ⊢
        simpa [Act.put, hd2] using hG
      · rw [getD_set_ne false e] at hl
        have h1 := hF.slots j oj d hj hl hd
        have hv : (a.put o.dst v).tmps.getD d undef = a.tmps.getD d undef := by
          cases hod : o.dst with
          | none => rfl
          | some d' =>
            have := once_ne ho hoi hj e hod
            rw [hd] at this
            simp [Act.put, Array.getElem?_setIfInBounds_ne (show d' ≠ d from fun e => this (by rw [e]))]
        rw [hv]
        exact stab d _ w w' hR h1
    · intro j oj hj hl hn
      by_cases e : i = j
      · subst e
        rw [hoi] at hj
        cases hj
        rw [hn] at hG
        exact hG
      · rw [getD_set_ne false e] at hl
        exact stabM j w w' hR (hF.mems j oj hj hl hn)
/-- A REGION THAT DRAWS ITS ORDER, by one obligation for each operation. G d v w: what slot d has; M j w: what operation j, that has no slot, has done; B: what holds of memory throughout; Rel: what one operation may do to memory. -/
theorem wp_region_flow {id : Nat} {w : World} (G : Nat → Value → World → Prop) (M : Nat → World → Prop) (B : World → Prop) (Rel : World → World → Prop) (hm : P.follows .mixedOrders = true) (ht : topo ops = true) (ho : once ops a0.tmps.size = true) (hB : B w.drew)
    (stab : ∀ d u w w', Rel w w' → G d u w → G d u w') (stabM : ∀ j w w', Rel w w' → M j w → M j w') (steps : FlowSteps P Q G M B Rel a0 ops 0 ops.toList)
    (fin : ∀ a w, B w → a.tmps.size = a0.tmps.size → a.defers = a0.defers → (∀ d, notDst ops d = true → a.tmps.getD d undef = a0.tmps.getD d undef) → (∀ d, isDst ops d = true → G d (a.tmps.getD d undef) w) →
      (∀ j oj, ops[j]? = some oj → oj.dst = none → M j w) → Q .normal a w) : (Code.region id ops true).wp P Q a0 w :=
  wp_region_any hm (flow_any ht ho stab stabM steps fin ops.size _ a0 _ (by simp) (by unfold unlisted; exact Nat.le_trans (List.length_filter_le _ _) (by simp))
    ⟨hB, rfl, rfl, fun _ _ => rfl, fun j oj d _ hl _ => by
      by_cases h : j < ops.size <;> simp [h] at hl, fun j oj _ hl _ => by
      by_cases h : j < ops.size <;> simp [h] at hl⟩)

theorem wanted_none {o : Oper} (h : o.guard = none) (f : Nat → Option Bool) : Region.wanted o f = true := by simp [Region.wanted, h]
/-- an operation that yields a value -/
theorem flow_value {i : Nat} {o : Oper} {d : Nat} (hd : o.dst = some d) (hg : o.guard = none) (h : ∀ a w, FlowAt G M B a0 ops o a w → ∃ v w', (execOp a.eval o).run P w = .ok (.value v) w' ∧ B w' ∧ Rel w w' ∧ G d v w') : FlowStep P Q G M B Rel a0 ops i o := by
  intro a w hF hi
  obtain ⟨v, w', hr, hB, hR, hG⟩ := h a w hF
  unfold wpOp
  simp only [hi, wanted_none hg, if_true]
  refine Or.inl ?_
  unfold Oper.wp
  rw [hr]
  exact ⟨v, rfl, hB, hR, by rw [hd]; exact hG⟩
/-- an operation that leaves no value -/
theorem flow_skip {i : Nat} {o : Oper} (hd : o.dst = none) (hg : o.guard = none) (h : ∀ a w, FlowAt G M B a0 ops o a w → ∃ w', (execOp a.eval o).run P w = .ok .skip w' ∧ B w' ∧ Rel w w' ∧ M i w') : FlowStep P Q G M B Rel a0 ops i o := by
  intro a w hF hi
  obtain ⟨w', hr, hB, hR, hG⟩ := h a w hF
  unfold wpOp
  simp only [hi, wanted_none hg, if_true]
  refine Or.inl ?_
  unfold Oper.wp
  rw [hr]
  exact ⟨undef, rfl, hB, hR, by rw [hd]; exact hG⟩
/-- a call -/
theorem flow_call {i : Nat} {o : Oper} {d : Nat} (hd : o.dst = some d) (hg : o.guard = none)
    (h : ∀ a w, FlowAt G M B a0 ops o a w → ∃ f args, (execOp a.eval o).run P w = .ok (.enter f args) w ∧ Calls P f args w fun e w' => ∃ v, e = .returned v ∧ B w' ∧ Rel w w' ∧ G d v w') : FlowStep P Q G M B Rel a0 ops i o := by
  intro a w hF hi
  obtain ⟨f, args, hr, hc⟩ := h a w hF
  unfold wpOp
  simp only [hi, wanted_none hg, if_true]
  refine Or.inl ?_
  unfold Oper.wp
  rw [hr]
  refine Calls.mono hc fun e w' he => ?_
  obtain ⟨v, rfl, hB, hR, hG⟩ := he
  exact ⟨v, rfl, hB, hR, by rw [hd]; exact hG⟩
end
end Go.Proofs.YtcmnecnbcohaeaaGreatDoor

/- A region that draws its order, as in XFlow; what a store has done may be told of the address that stands in a slot (the slot st j of operation j). No program is named here. -/
namespace Go.Proofs.YtcmnecnbcohaeaaGreatDoor
open Go
section
variable {P : Program} {ops : Array Oper} {Q : Exit → Act → World → Prop} {G : Nat → Value → World → Prop} {st : Nat → Nat} {M : Nat → Value → World → Prop} {B : World → Prop} {Rel : World → World → Prop} {a0 : Act}

structure Flow2 (G : Nat → Value → World → Prop) (st : Nat → Nat) (M : Nat → Value → World → Prop) (B : World → Prop) (a0 : Act) (ops : Array Oper) (listed : Array Bool) (a : Act) (w : World) : Prop where
  base : B w
  size : a.tmps.size = a0.tmps.size
  defers : a.defers = a0.defers
  rest : ∀ d, notDst ops d = true → a.tmps.getD d undef = a0.tmps.getD d undef
  slots : ∀ j oj d, ops[j]? = some oj → listed.getD j false = true → oj.dst = some d → G d (a.tmps.getD d undef) w
  mems : ∀ j oj, ops[j]? = some oj → listed.getD j false = true → oj.dst = none → M j (a.tmps.getD (st j) undef) w
  closed : ∀ j oj, ops[j]? = some oj → listed.getD j false = true → ∀ e ∈ oj.after, Region.binds .any e = true → listed.getD e.on false = true
structure FlowAt2 (G : Nat → Value → World → Prop) (st : Nat → Nat) (M : Nat → Value → World → Prop) (B : World → Prop) (a0 : Act) (ops : Array Oper) (o : Oper) (a : Act) (w : World) : Prop where
  base : B w
  rest : ∀ d, notDst ops d = true → a.tmps.getD d undef = a0.tmps.getD d undef
  dep : ∀ d, waits ops o d = true → G d (a.tmps.getD d undef) w
  mem : ∀ j oj, ops[j]? = some oj → waitsFor o j = true → oj.dst = none → M j (a.tmps.getD (st j) undef) w
def FlowPost2 (G : Nat → Value → World → Prop) (st : Nat → Nat) (M : Nat → Value → World → Prop) (B : World → Prop) (Rel : World → World → Prop) (i : Nat) (o : Oper) (a : Act) (w : World) (v : Value) (w' : World) : Prop :=
  B w' ∧ Rel w w' ∧ match o.dst with | some d => G d v w' | none => M i (a.tmps.getD (st i) undef) w'
def FlowStep2 (P : Program) (Q : Exit → Act → World → Prop) (G : Nat → Value → World → Prop) (st : Nat → Nat) (M : Nat → Value → World → Prop) (B : World → Prop) (Rel : World → World → Prop) (a0 : Act) (ops : Array Oper) (i : Nat) (o : Oper) : Prop :=
  ∀ a w, FlowAt2 G st M B a0 ops o a w → ops[i]? = some o → wpOp P ops Q i (fun a' w' => ∃ v, a' = a.put o.dst v ∧ FlowPost2 G st M B Rel i o a w v w') a w
def FlowSteps2 (P : Program) (Q : Exit → Act → World → Prop) (G : Nat → Value → World → Prop) (st : Nat → Nat) (M : Nat → Value → World → Prop) (B : World → Prop) (Rel : World → World → Prop) (a0 : Act) (ops : Array Oper) : Nat → List Oper → Prop
  | _, [] => True
  | i, o :: r => FlowStep2 P Q G st M B Rel a0 ops i o ∧ FlowSteps2 P Q G st M B Rel a0 ops (i + 1) r
theorem flowSteps2_get : ∀ (l : List Oper) (i k : Nat) (o : Oper), FlowSteps2 P Q G st M B Rel a0 ops i l → l[k]? = some o → FlowStep2 P Q G st M B Rel a0 ops (i + k) o := by
  intro l
  induction l with
  | nil => intro i k o h hk; simp at hk
  | cons x r ih =>
    intro i k o h hk
    cases k with
    | zero => simp at hk; subst hk; exact h.1
    | succ k => have := ih (i + 1) k o h.2 (by simpa using hk); rwa [show i + (k + 1) = i + 1 + k by omega]
/-- each store's slot is one that it waits for, or that nobody writes -/
def stOk (ops : Array Oper) (st : Nat → Nat) : Bool := (List.range ops.size).all fun j => ((ops[j]?).map fun o => o.dst.isSome || waits ops o (st j) || notDst ops (st j)).getD true
theorem flow2_any (ht : topo ops = true) (ho : once ops a0.tmps.size = true) (stab : ∀ d u w w', Rel w w' → G d u w → G d u w') (stabM : ∀ j u w w', Rel w w' → M j u w → M j u w') (hstk : stOk ops st = true)
    (steps : FlowSteps2 P Q G st M B Rel a0 ops 0 ops.toList)
    (fin : ∀ a w, B w → a.tmps.size = a0.tmps.size → a.defers = a0.defers → (∀ d, notDst ops d = true → a.tmps.getD d undef = a0.tmps.getD d undef) → (∀ d, isDst ops d = true → G d (a.tmps.getD d undef) w) →
      (∀ j oj, ops[j]? = some oj → oj.dst = none → M j (a.tmps.getD (st j) undef) w) → Q .normal a w) :
    ∀ (fuel : Nat) (listed : Array Bool) (a : Act) (w : World), listed.size = ops.size → unlisted ops listed ≤ fuel → Flow2 G st M B a0 ops listed a w → wpAny P .any ops Q fuel listed a w := by
  have inn : ∀ {j : Nat} {oj : Oper}, ops[j]? = some oj → j < ops.size := by
    intro j oj hj
    rcases Nat.lt_or_ge j ops.size with h' | h'
    · exact h'
    · rw [Array.getElem?_eq_none h'] at hj; cases hj
  have go : ∀ (listed : Array Bool) (a : Act) (w : World), listed.size = ops.size → Flow2 G st M B a0 ops listed a w → Region.ready .any ops listed = [] → Q .normal a w := by
    intro listed a w hs hF hr
    have hall := all_listed ht hs hr
    refine fin a w hF.base hF.size hF.defers hF.rest (fun d hd => ?_) (fun j oj hj hn => hF.mems j oj hj (hall j (inn hj)) hn)
    obtain ⟨k, hk, hb⟩ := Array.any_eq_true.1 hd
    exact hF.slots k ops[k] d (Array.getElem?_eq_getElem hk) (hall k hk) (by simpa using hb)
  intro fuel
  induction fuel with
  | zero =>
    intro listed a w hs hu hF
    have hr : Region.ready .any ops listed = [] := by
      cases hc : Region.ready .any ops listed with
      | nil => rfl
      | cons x r =>
        have := unlisted_lt (ops := ops) (listed := listed) (i := x) (by rw [hc]; exact List.mem_cons_self ..)
        omega
    exact ⟨hr, go listed a w hs hF hr⟩
  | succ fuel ih =>
    intro listed a w hs hu hF
    refine ⟨go listed a w hs hF, fun i hi => ?_⟩
    obtain ⟨h0, o, hoi, hall⟩ := mem_ready.1 hi
    have hst := flowSteps2_get ops.toList 0 i o steps (by rw [Array.getElem?_toList]; exact hoi)
    rw [Nat.zero_add] at hst
    have hat : FlowAt2 G st M B a0 ops o a w := ⟨hF.base, hF.rest, fun d hd => by
        obtain ⟨k, hk, hb⟩ := Array.any_eq_true.1 hd
        simp only [Bool.and_eq_true, beq_iff_eq] at hb
        have hl := hall _ (Array.getElem_mem hk) hb.1
        cases hx : ops[o.after[k].on]? with
        | none => rw [hx] at hb; cases hb.2
        | some oj => rw [hx] at hb; exact hF.slots _ oj d hx hl hb.2,
      fun j oj hj ha hn => by
        obtain ⟨k, hk, hb⟩ := Array.any_eq_true.1 ha
        simp only [Bool.and_eq_true, beq_iff_eq] at hb
        have hl := hall _ (Array.getElem_mem hk) hb.1
        rw [hb.2] at hl
        exact hF.mems j oj hj hl hn⟩
    refine wpOp_mono (fun a' w' h => ?_) (hst a w hat hoi)
    obtain ⟨v, rfl, hB, hR, hG⟩ := h
    have hlt := unlisted_lt hi
    refine ih _ _ _ (by simpa using hs) (by omega) ⟨hB, ?_, ?_, ?_, ?_, ?_, ?_⟩
    · rw [← hF.size]; cases o.dst <;> simp [Act.put]
    · rw [← hF.defers]; cases o.dst <;> simp [Act.put]
    · intro d hd
      rw [← hF.rest d hd]
      have hne : o.dst ≠ some d := by
        have := (Array.all_eq_true_iff_forall_mem.1 hd) o (Array.mem_of_getElem? hoi)
        simpa using this
      cases hod : o.dst with
      | none => rfl
      | some d' => rw [hod] at hne; simp [Act.put, Array.getElem?_setIfInBounds_ne (show d' ≠ d from fun e => hne (by rw [e]))]
    · intro j oj d hj hl hd
      by_cases e : i = j
      · subst e
        rw [hoi] at hj
        cases hj
        have hd2 := once_lt ho hoi hd
        rw [← hF.size] at hd2
        rw [hd] at hG ⊢
        simpa [Act.put, hd2] using hG
      · rw [getD_set_ne false e] at hl
        have h1 := hF.slots j oj d hj hl hd
        have hv : (a.put o.dst v).tmps.getD d undef = a.tmps.getD d undef := by
          cases hod : o.dst with
          | none => rfl
          | some d' =>
            have := once_ne ho hoi hj e hod
            rw [hd] at this
            simp [Act.put, Array.getElem?_setIfInBounds_ne (show d' ≠ d from fun e => this (by rw [e]))]
        rw [hv]
        exact stab d _ w w' hR h1
    · intro j oj hj hl hn
      have hv : ∀ jj ojj, ops[jj]? = some ojj → ojj.dst = none → (jj = i ∨ listed.getD jj false = true) → (a.put o.dst v).tmps.getD (st jj) undef = a.tmps.getD (st jj) undef := by
        intro jj ojj hjj hnn hcase
        cases hod : o.dst with
        | none => rfl
        | some d' =>
          have hne : d' ≠ st jj := by
            intro he
            have hs1 := (List.all_eq_true.1 hstk) jj (List.mem_range.2 (inn hjj))
            rw [hjj] at hs1
            simp only [Option.map_some, Option.getD_some, hnn, Option.isSome_none, Bool.false_or, Bool.or_eq_true] at hs1
            rcases hs1 with hs1 | hs1
            · obtain ⟨k, hk, hb⟩ := Array.any_eq_true.1 hs1
              simp only [Bool.and_eq_true, beq_iff_eq] at hb
              rcases hcase with hc | hc
              · subst hc
                rw [hoi] at hjj
                cases hjj
                rw [hod] at hnn
                cases hnn
              · have hl2 := hF.closed jj ojj hjj hc _ (Array.getElem_mem hk) hb.1
                cases hx : ops[ojj.after[k].on]? with
                | none => rw [hx] at hb; cases hb.2
                | some ok =>
                  rw [hx] at hb
                  have hdk : ok.dst = some (st jj) := hb.2
                  by_cases hki : ojj.after[k].on = i
                  · rw [hki] at hl2
                    have hlt2 : i < listed.size := by rw [hs]; exact inn hoi
                    simp [hlt2] at h0 hl2
                    rw [h0] at hl2
                    cases hl2
                  · exact once_ne ho hx hoi hki hdk (by rw [hod, he])
            · have := (Array.all_eq_true_iff_forall_mem.1 hs1) o (Array.mem_of_getElem? hoi)
              rw [hod, he] at this
              simp at this
          simp [Act.put, Array.getElem?_setIfInBounds_ne hne]
      by_cases e : i = j
      · subst e
        rw [hv i oj hj hn (Or.inl rfl)]
        rw [hoi] at hj
        cases hj
        rw [hn] at hG
        exact hG
      · rw [getD_set_ne false e] at hl
        rw [hv j oj hj hn (Or.inr hl)]
        exact stabM j _ w w' hR (hF.mems j oj hj hl hn)
    · intro j oj hj hl e he hb
      by_cases ei : i = j
      · subst ei
        rw [hoi] at hj
        cases hj
        exact getD_set_true (hall e he hb)
      · rw [getD_set_ne false ei] at hl
        exact getD_set_true (hF.closed j oj hj hl e he hb)
/-- A REGION THAT DRAWS ITS ORDER, by one obligation for each operation. G d v w: what slot d has; M j w: what operation j, that has no slot, has done; B: what holds of memory throughout; Rel: what one operation may do to memory. -/
theorem wp_region_flow2 {id : Nat} {w : World} (G : Nat → Value → World → Prop) (st : Nat → Nat) (M : Nat → Value → World → Prop) (B : World → Prop) (Rel : World → World → Prop) (hm : P.follows .mixedOrders = true) (ht : topo ops = true) (ho : once ops a0.tmps.size = true) (hB : B w.drew)
    (stab : ∀ d u w w', Rel w w' → G d u w → G d u w') (stabM : ∀ j u w w', Rel w w' → M j u w → M j u w') (hstk : stOk ops st = true) (steps : FlowSteps2 P Q G st M B Rel a0 ops 0 ops.toList)
    (fin : ∀ a w, B w → a.tmps.size = a0.tmps.size → a.defers = a0.defers → (∀ d, notDst ops d = true → a.tmps.getD d undef = a0.tmps.getD d undef) → (∀ d, isDst ops d = true → G d (a.tmps.getD d undef) w) →
      (∀ j oj, ops[j]? = some oj → oj.dst = none → M j (a.tmps.getD (st j) undef) w) → Q .normal a w) : (Code.region id ops true).wp P Q a0 w :=
  wp_region_any hm (flow2_any ht ho stab stabM hstk steps fin ops.size _ a0 _ (by simp) (by unfold unlisted; exact Nat.le_trans (List.length_filter_le _ _) (by simp))
    ⟨hB, rfl, rfl, fun _ _ => rfl, fun j oj d _ hl _ => by
      by_cases h : j < ops.size <;> simp [h] at hl, fun j oj _ hl _ => by
      by_cases h : j < ops.size <;> simp [h] at hl, fun j oj _ hl => by
      by_cases h : j < ops.size <;> simp [h] at hl⟩)

/-- an operation that yields a value -/
theorem flow2_value {i : Nat} {o : Oper} {d : Nat} (hd : o.dst = some d) (hg : o.guard = none) (h : ∀ a w, FlowAt2 G st M B a0 ops o a w → ∃ v w', (execOp a.eval o).run P w = .ok (.value v) w' ∧ B w' ∧ Rel w w' ∧ G d v w') : FlowStep2 P Q G st M B Rel a0 ops i o := by
  intro a w hF hi
  obtain ⟨v, w', hr, hB, hR, hG⟩ := h a w hF
  unfold wpOp
  simp only [hi, wanted_none hg, if_true]
  refine Or.inl ?_
  unfold Oper.wp
  rw [hr]
  exact ⟨v, rfl, hB, hR, by rw [hd]; exact hG⟩
/-- an operation that leaves no value -/
theorem flow2_skip {i : Nat} {o : Oper} (hd : o.dst = none) (hg : o.guard = none) (h : ∀ a w, FlowAt2 G st M B a0 ops o a w → ∃ w', (execOp a.eval o).run P w = .ok .skip w' ∧ B w' ∧ Rel w w' ∧ M i (a.tmps.getD (st i) undef) w') : FlowStep2 P Q G st M B Rel a0 ops i o := by
  intro a w hF hi
  obtain ⟨w', hr, hB, hR, hG⟩ := h a w hF
  unfold wpOp
  simp only [hi, wanted_none hg, if_true]
  refine Or.inl ?_
  unfold Oper.wp
  rw [hr]
  exact ⟨undef, rfl, hB, hR, by rw [hd]; exact hG⟩
/-- a call -/
theorem flow2_call {i : Nat} {o : Oper} {d : Nat} (hd : o.dst = some d) (hg : o.guard = none)
    (h : ∀ a w, FlowAt2 G st M B a0 ops o a w → ∃ f args, (execOp a.eval o).run P w = .ok (.enter f args) w ∧ Calls P f args w fun e w' => ∃ v, e = .returned v ∧ B w' ∧ Rel w w' ∧ G d v w') : FlowStep2 P Q G st M B Rel a0 ops i o := by
  intro a w hF hi
  obtain ⟨f, args, hr, hc⟩ := h a w hF
  unfold wpOp
  simp only [hi, wanted_none hg, if_true]
  refine Or.inl ?_
  unfold Oper.wp
  rw [hr]
  refine Calls.mono hc fun e w' he => ?_
  obtain ⟨v, rfl, hB, hR, hG⟩ := he
  exact ⟨v, rfl, hB, hR, by rw [hd]; exact hG⟩
end
end Go.Proofs.YtcmnecnbcohaeaaGreatDoor

/- A region that draws its order, as in XFlow2; what a store has done may be told of the address that stands in a slot (the slot st j of operation j). No program is named here. -/
namespace Go.Proofs.YtcmnecnbcohaeaaGreatDoor
open Go
section
variable {P : Program} {ops : Array Oper} {Q : Exit → Act → World → Prop} {G : Nat → Value → World → Prop} {st : Nat → Nat} {M : Nat → Value → World → Prop} {B : World → Prop} {ps : List Nat} {a0 : Act}

/-- the pointers in the slots ps go to blocks that are there, all apart -/
def PtrsApart (ps : List Nat) (a : Act) (w : World) : Prop :=
  ∀ s ∈ ps, ∀ C, a.tmps.getD s undef = .pointer (some ⟨C, 0, none⟩) → C < w.heap.size ∧ ∀ t ∈ ps, t ≠ s → a.tmps.getD t undef ≠ .pointer (some ⟨C, 0, none⟩)
theorem ptrs_grown {ps : List Nat} {a : Act} {w w' : World} (h : PtrsApart ps a w) (hs : w.heap.size ≤ w'.heap.size) : PtrsApart ps a w' :=
  fun s hm C e => ⟨Nat.lt_of_lt_of_le (h s hm C e).1 hs, (h s hm C e).2⟩
theorem put_getD {a : Act} {dst : Option Tmp} {v : Value} {s : Nat} (h : dst ≠ some s) : (a.put dst v).tmps.getD s undef = a.tmps.getD s undef := by
  cases dst with
  | none => rfl
  | some d => simp [Act.put, Array.getElem?_setIfInBounds_ne (show d ≠ s from fun e => h (by rw [e]))]
theorem ptrs_put {ps : List Nat} {a : Act} {w w' : World} {dst : Option Tmp} {v : Value} (h : PtrsApart ps a w) (hs : w.heap.size ≤ w'.heap.size) (hd : ∀ s ∈ ps, dst ≠ some s) : PtrsApart ps (a.put dst v) w' := by
  intro s hm C e
  rw [put_getD (hd s hm)] at e
  refine ⟨Nat.lt_of_lt_of_le (h s hm C e).1 hs, fun t ht hts => ?_⟩
  rw [put_getD (hd t ht)]
  exact (h s hm C e).2 t ht hts
theorem ptrs_new {ps : List Nat} {a : Act} {w w' : World} {d : Nat} (h : PtrsApart ps a w) (hs : w.heap.size < w'.heap.size) (hd : d < a.tmps.size) : PtrsApart ps (a.put (some d) (.pointer (some ⟨w.heap.size, 0, none⟩))) w' := by
  have hsame : ∀ v, (a.put (some d) v).tmps.getD d undef = v := fun v => by simp [Act.put, hd]
  intro s hm C e
  by_cases e1 : d = s
  · subst e1
    rw [hsame] at e
    cases e
    refine ⟨hs, fun t ht hts e2 => ?_⟩
    rw [put_getD (by intro e3; exact hts (Option.some.inj e3).symm)] at e2
    have := (h t ht _ e2).1
    omega
  · rw [put_getD (by intro e3; exact e1 (Option.some.inj e3))] at e
    refine ⟨by have := (h s hm C e).1; omega, fun t ht hts => ?_⟩
    by_cases e2 : d = t
    · subst e2
      rw [hsame]
      intro e3
      cases e3
      have := (h s hm _ e).1
      omega
    · rw [put_getD (by intro e3; exact e2 (Option.some.inj e3))]
      exact (h s hm C e).2 t ht hts
structure Flow3 (G : Nat → Value → World → Prop) (st : Nat → Nat) (M : Nat → Value → World → Prop) (B : World → Prop) (ps : List Nat) (a0 : Act) (ops : Array Oper) (listed : Array Bool) (a : Act) (w : World) : Prop where
  base : B w
  size : a.tmps.size = a0.tmps.size
  defers : a.defers = a0.defers
  rest : ∀ d, notDst ops d = true → a.tmps.getD d undef = a0.tmps.getD d undef
  slots : ∀ j oj d, ops[j]? = some oj → listed.getD j false = true → oj.dst = some d → G d (a.tmps.getD d undef) w
  mems : ∀ j oj, ops[j]? = some oj → listed.getD j false = true → oj.dst = none → M j (a.tmps.getD (st j) undef) w
  ptrs : PtrsApart ps a w
  closed : ∀ j oj, ops[j]? = some oj → listed.getD j false = true → ∀ e ∈ oj.after, Region.binds .any e = true → listed.getD e.on false = true
structure FlowAt3 (G : Nat → Value → World → Prop) (st : Nat → Nat) (M : Nat → Value → World → Prop) (B : World → Prop) (ps : List Nat) (a0 : Act) (ops : Array Oper) (o : Oper) (a : Act) (w : World) : Prop where
  base : B w
  size : a.tmps.size = a0.tmps.size
  ptrs : PtrsApart ps a w
  rest : ∀ d, notDst ops d = true → a.tmps.getD d undef = a0.tmps.getD d undef
  dep : ∀ d, waits ops o d = true → G d (a.tmps.getD d undef) w
  mem : ∀ j oj, ops[j]? = some oj → waitsFor o j = true → oj.dst = none → M j (a.tmps.getD (st j) undef) w
def FlowPost3 (G : Nat → Value → World → Prop) (st : Nat → Nat) (M : Nat → Value → World → Prop) (B : World → Prop) (ps : List Nat) (ops : Array Oper) (i : Nat) (o : Oper) (a : Act) (w : World) (v : Value) (w' : World) : Prop :=
  B w' ∧ (∀ d u, G d u w → G d u w') ∧ (∀ j oj, j ≠ i → ops[j]? = some oj → oj.dst = none → M j (a.tmps.getD (st j) undef) w → M j (a.tmps.getD (st j) undef) w') ∧ PtrsApart ps (a.put o.dst v) w' ∧
    match o.dst with | some d => G d v w' | none => M i (a.tmps.getD (st i) undef) w'
def FlowStep3 (P : Program) (Q : Exit → Act → World → Prop) (G : Nat → Value → World → Prop) (st : Nat → Nat) (M : Nat → Value → World → Prop) (B : World → Prop) (ps : List Nat) (a0 : Act) (ops : Array Oper) (i : Nat) (o : Oper) : Prop :=
  ∀ a w, FlowAt3 G st M B ps a0 ops o a w → ops[i]? = some o → wpOp P ops Q i (fun a' w' => ∃ v, a' = a.put o.dst v ∧ FlowPost3 G st M B ps ops i o a w v w') a w
def FlowSteps3 (P : Program) (Q : Exit → Act → World → Prop) (G : Nat → Value → World → Prop) (st : Nat → Nat) (M : Nat → Value → World → Prop) (B : World → Prop) (ps : List Nat) (a0 : Act) (ops : Array Oper) : Nat → List Oper → Prop
  | _, [] => True
  | i, o :: r => FlowStep3 P Q G st M B ps a0 ops i o ∧ FlowSteps3 P Q G st M B ps a0 ops (i + 1) r
theorem flowSteps3_get : ∀ (l : List Oper) (i k : Nat) (o : Oper), FlowSteps3 P Q G st M B ps a0 ops i l → l[k]? = some o → FlowStep3 P Q G st M B ps a0 ops (i + k) o := by
  intro l
  induction l with
  | nil => intro i k o h hk; simp at hk
  | cons x r ih =>
    intro i k o h hk
    cases k with
    | zero => simp at hk; subst hk; exact h.1
    | succ k => have := ih (i + 1) k o h.2 (by simpa using hk); rwa [show i + (k + 1) = i + 1 + k by omega]
theorem flow3_any (ht : topo ops = true) (ho : once ops a0.tmps.size = true) (hstk : stOk ops st = true)
    (steps : FlowSteps3 P Q G st M B ps a0 ops 0 ops.toList)
    (fin : ∀ a w, B w → a.tmps.size = a0.tmps.size → a.defers = a0.defers → (∀ d, notDst ops d = true → a.tmps.getD d undef = a0.tmps.getD d undef) → (∀ d, isDst ops d = true → G d (a.tmps.getD d undef) w) →
      (∀ j oj, ops[j]? = some oj → oj.dst = none → M j (a.tmps.getD (st j) undef) w) → Q .normal a w) :
    ∀ (fuel : Nat) (listed : Array Bool) (a : Act) (w : World), listed.size = ops.size → unlisted ops listed ≤ fuel → Flow3 G st M B ps a0 ops listed a w → wpAny P .any ops Q fuel listed a w := by
  have inn : ∀ {j : Nat} {oj : Oper}, ops[j]? = some oj → j < ops.size := by
    intro j oj hj
    rcases Nat.lt_or_ge j ops.size with h' | h'
    · exact h'
    · rw [Array.getElem?_eq_none h'] at hj; cases hj
  have go : ∀ (listed : Array Bool) (a : Act) (w : World), listed.size = ops.size → Flow3 G st M B ps a0 ops listed a w → Region.ready .any ops listed = [] → Q .normal a w := by
    intro listed a w hs hF hr
    have hall := all_listed ht hs hr
    refine fin a w hF.base hF.size hF.defers hF.rest (fun d hd => ?_) (fun j oj hj hn => hF.mems j oj hj (hall j (inn hj)) hn)
    obtain ⟨k, hk, hb⟩ := Array.any_eq_true.1 hd
    exact hF.slots k ops[k] d (Array.getElem?_eq_getElem hk) (hall k hk) (by simpa using hb)
  intro fuel
  induction fuel with
  | zero =>
    intro listed a w hs hu hF
    have hr : Region.ready .any ops listed = [] := by
      cases hc : Region.ready .any ops listed with
      | nil => rfl
      | cons x r =>
        have := unlisted_lt (ops := ops) (listed := listed) (i := x) (by rw [hc]; exact List.mem_cons_self ..)
        omega
    exact ⟨hr, go listed a w hs hF hr⟩
  | succ fuel ih =>
    intro listed a w hs hu hF
    refine ⟨go listed a w hs hF, fun i hi => ?_⟩
    obtain ⟨h0, o, hoi, hall⟩ := mem_ready.1 hi
    have hst := flowSteps3_get ops.toList 0 i o steps (by rw [Array.getElem?_toList]; exact hoi)
    rw [Nat.zero_add] at hst
    have hat : FlowAt3 G st M B ps a0 ops o a w := ⟨hF.base, hF.size, hF.ptrs, hF.rest, fun d hd => by
        obtain ⟨k, hk, hb⟩ := Array.any_eq_true.1 hd
        simp only [Bool.and_eq_true, beq_iff_eq] at hb
        have hl := hall _ (Array.getElem_mem hk) hb.1
        cases hx : ops[o.after[k].on]? with
        | none => rw [hx] at hb; cases hb.2
        | some oj => rw [hx] at hb; exact hF.slots _ oj d hx hl hb.2,
      fun j oj hj ha hn => by
        obtain ⟨k, hk, hb⟩ := Array.any_eq_true.1 ha
        simp only [Bool.and_eq_true, beq_iff_eq] at hb
        have hl := hall _ (Array.getElem_mem hk) hb.1
        rw [hb.2] at hl
        exact hF.mems j oj hj hl hn⟩
    refine wpOp_mono (fun a' w' h => ?_) (hst a w hat hoi)
    obtain ⟨v, rfl, hB, hRG, hRM, hPt, hG⟩ := h
    have hlt := unlisted_lt hi
    refine ih _ _ _ (by simpa using hs) (by omega) ⟨hB, ?_, ?_, ?_, ?_, ?_, hPt, ?_⟩
    · rw [← hF.size]; cases o.dst <;> simp [Act.put]
    · rw [← hF.defers]; cases o.dst <;> simp [Act.put]
    · intro d hd
      rw [← hF.rest d hd]
      have hne : o.dst ≠ some d := by
        have := (Array.all_eq_true_iff_forall_mem.1 hd) o (Array.mem_of_getElem? hoi)
        simpa using this
      cases hod : o.dst with
      | none => rfl
      | some d' => rw [hod] at hne; simp [Act.put, Array.getElem?_setIfInBounds_ne (show d' ≠ d from fun e => hne (by rw [e]))]
    · intro j oj d hj hl hd
      by_cases e : i = j
      · subst e
        rw [hoi] at hj
        cases hj
        have hd2 := once_lt ho hoi hd
        rw [← hF.size] at hd2
        rw [hd] at hG ⊢
        simpa [Act.put, hd2] using hG
      · rw [getD_set_ne false e] at hl
        have h1 := hF.slots j oj d hj hl hd
        have hv : (a.put o.dst v).tmps.getD d undef = a.tmps.getD d undef := by
          cases hod : o.dst with
          | none => rfl
          | some d' =>
            have := once_ne ho hoi hj e hod
            rw [hd] at this
            simp [Act.put, Array.getElem?_setIfInBounds_ne (show d' ≠ d from fun e => this (by rw [e]))]
        rw [hv]
        exact hRG d _ h1
    · intro j oj hj hl hn
      have hv : ∀ jj ojj, ops[jj]? = some ojj → ojj.dst = none → (jj = i ∨ listed.getD jj false = true) → (a.put o.dst v).tmps.getD (st jj) undef = a.tmps.getD (st jj) undef := by
        intro jj ojj hjj hnn hcase
        cases hod : o.dst with
        | none => rfl
        | some d' =>
          have hne : d' ≠ st jj := by
            intro he
            have hs1 := (List.all_eq_true.1 hstk) jj (List.mem_range.2 (inn hjj))
            rw [hjj] at hs1
            simp only [Option.map_some, Option.getD_some, hnn, Option.isSome_none, Bool.false_or, Bool.or_eq_true] at hs1
            rcases hs1 with hs1 | hs1
            · obtain ⟨k, hk, hb⟩ := Array.any_eq_true.1 hs1
              simp only [Bool.and_eq_true, beq_iff_eq] at hb
              rcases hcase with hc | hc
              · subst hc
                rw [hoi] at hjj
                cases hjj
                rw [hod] at hnn
                cases hnn
              · have hl2 := hF.closed jj ojj hjj hc _ (Array.getElem_mem hk) hb.1
                cases hx : ops[ojj.after[k].on]? with
                | none => rw [hx] at hb; cases hb.2
                | some ok =>
                  rw [hx] at hb
                  have hdk : ok.dst = some (st jj) := hb.2
                  by_cases hki : ojj.after[k].on = i
                  · rw [hki] at hl2
                    have hlt2 : i < listed.size := by rw [hs]; exact inn hoi
                    simp [hlt2] at h0 hl2
                    rw [h0] at hl2
                    cases hl2
                  · exact once_ne ho hx hoi hki hdk (by rw [hod, he])
            · have := (Array.all_eq_true_iff_forall_mem.1 hs1) o (Array.mem_of_getElem? hoi)
              rw [hod, he] at this
              simp at this
          simp [Act.put, Array.getElem?_setIfInBounds_ne hne]
      by_cases e : i = j
      · subst e
        rw [hv i oj hj hn (Or.inl rfl)]
        rw [hoi] at hj
        cases hj
        rw [hn] at hG
        exact hG
      · rw [getD_set_ne false e] at hl
        rw [hv j oj hj hn (Or.inr hl)]
        exact hRM j oj (fun e2 => e e2.symm) hj hn (hF.mems j oj hj hl hn)
    · intro j oj hj hl e he hb
      by_cases ei : i = j
      · subst ei
        rw [hoi] at hj
        cases hj
        exact getD_set_true (hall e he hb)
      · rw [getD_set_ne false ei] at hl
        exact getD_set_true (hF.closed j oj hj hl e he hb)
/-- A REGION THAT DRAWS ITS ORDER, by one obligation for each operation. G d v w: what slot d has; M j w: what operation j, that has no slot, has done; B: what holds of memory throughout; Rel: what one operation may do to memory. -/
theorem wp_region_flow3 {id : Nat} {w : World} (G : Nat → Value → World → Prop) (st : Nat → Nat) (M : Nat → Value → World → Prop) (B : World → Prop) (ps : List Nat) (hm : P.follows .mixedOrders = true) (ht : topo ops = true) (ho : once ops a0.tmps.size = true) (hB : B w.drew) (hps : PtrsApart ps a0 w.drew)
    (hstk : stOk ops st = true) (steps : FlowSteps3 P Q G st M B ps a0 ops 0 ops.toList)
    (fin : ∀ a w, B w → a.tmps.size = a0.tmps.size → a.defers = a0.defers → (∀ d, notDst ops d = true → a.tmps.getD d undef = a0.tmps.getD d undef) → (∀ d, isDst ops d = true → G d (a.tmps.getD d undef) w) →
      (∀ j oj, ops[j]? = some oj → oj.dst = none → M j (a.tmps.getD (st j) undef) w) → Q .normal a w) : (Code.region id ops true).wp P Q a0 w :=
  wp_region_any hm (flow3_any ht ho hstk steps fin ops.size _ a0 _ (by simp) (by unfold unlisted; exact Nat.le_trans (List.length_filter_le _ _) (by simp))
    ⟨hB, rfl, rfl, fun _ _ => rfl, fun j oj d _ hl _ => by
      by_cases h : j < ops.size <;> simp [h] at hl, fun j oj _ hl _ => by
      by_cases h : j < ops.size <;> simp [h] at hl, hps, fun j oj _ hl => by
      by_cases h : j < ops.size <;> simp [h] at hl⟩)

/-- the guard of an operation says yes -/
def Wants (ops : Array Oper) (o : Oper) (a : Act) : Prop := Region.wanted o (yielded ops a.tmps) = true
theorem wants_none {o : Oper} {a : Act} (h : o.guard = none) : Wants ops o a := wanted_none h _
theorem wants_some {o : Oper} {a : Act} {j d : Nat} {b : Bool} (h : o.guard = some (j, b)) (hj : (ops[j]?).bind (·.dst) = some d) (hd : d < a.tmps.size) (hv : a.tmps.getD d undef = .bool b) : Wants ops o a := by
  unfold Wants Region.wanted yielded
  rw [h]
  have : a.tmps[d]? = some (.bool b) := by
    rw [Array.getElem?_eq_getElem hd]
    simp [hd] at hv
    rw [hv]
  simp [hj, this]
theorem not_wants {o : Oper} {a : Act} {j d : Nat} {b c : Bool} (h : o.guard = some (j, b)) (hj : (ops[j]?).bind (·.dst) = some d) (hd : d < a.tmps.size) (hv : a.tmps.getD d undef = .bool c) (hbc : c ≠ b) : Region.wanted o (yielded ops a.tmps) = false := by
  unfold Region.wanted yielded
  rw [h]
  have : a.tmps[d]? = some (.bool c) := by
    rw [Array.getElem?_eq_getElem hd]
    simp [hd] at hv
    rw [hv]
  simp [hj, this, hbc]
theorem flow3_skipped {i : Nat} {o : Oper} {d : Nat} (hd : o.dst = some d) (hps : ∀ s ∈ ps, s ≠ d) (hG : ∀ w, B w → G d undef w)
    (h : ∀ a w, FlowAt3 G st M B ps a0 ops o a w → Region.wanted o (yielded ops a.tmps) = false) : FlowStep3 P Q G st M B ps a0 ops i o := by
  intro a w hF hi
  have hw := h a w hF
  unfold wpOp
  simp only [hi, hw]
  exact ⟨undef, rfl, hF.base, fun _ _ h => h, fun _ _ _ _ _ h => h, ptrs_put hF.ptrs (Nat.le_refl _) (fun s hs e => hps s hs (Option.some.inj (hd ▸ e)).symm), by rw [hd]; exact hG w hF.base⟩
/-- an operation that yields a value -/
theorem flow3_value {i : Nat} {o : Oper} {d : Nat} (hd : o.dst = some d) (h : ∀ a w, FlowAt3 G st M B ps a0 ops o a w → Wants ops o a ∧ ∃ v w', (execOp a.eval o).run P w = .ok (.value v) w' ∧ B w' ∧ (∀ d u, G d u w → G d u w') ∧ (∀ j u, M j u w → M j u w') ∧ PtrsApart ps (a.put (some d) v) w' ∧ G d v w') : FlowStep3 P Q G st M B ps a0 ops i o := by
  intro a w hF hi
  obtain ⟨hw, v, w', hr, hB, hRG, hRM, hP, hG⟩ := h a w hF
  unfold Wants at hw
  unfold wpOp
  simp only [hi, hw, if_true]
  refine Or.inl ?_
  unfold Oper.wp
  rw [hr]
  exact ⟨v, rfl, hB, hRG, fun j oj _ _ _ h => hRM j _ h, by rw [hd]; exact hP, by rw [hd]; exact hG⟩
/-- an operation that leaves no value: a store -/
theorem flow3_store {i : Nat} {o : Oper} (hd : o.dst = none) (h : ∀ a w, FlowAt3 G st M B ps a0 ops o a w → Wants ops o a ∧ ∃ w', (execOp a.eval o).run P w = .ok .skip w' ∧ B w' ∧ (∀ d u, G d u w → G d u w') ∧ (∀ j oj, j ≠ i → ops[j]? = some oj → oj.dst = none → M j (a.tmps.getD (st j) undef) w → M j (a.tmps.getD (st j) undef) w') ∧ w.heap.size ≤ w'.heap.size ∧ M i (a.tmps.getD (st i) undef) w') : FlowStep3 P Q G st M B ps a0 ops i o := by
  intro a w hF hi
  obtain ⟨hw, w', hr, hB, hRG, hRM, hs, hG⟩ := h a w hF
  unfold Wants at hw
  unfold wpOp
  simp only [hi, hw, if_true]
  refine Or.inl ?_
  unfold Oper.wp
  rw [hr]
  exact ⟨undef, rfl, hB, hRG, hRM, by rw [hd]; exact ptrs_grown hF.ptrs hs, by rw [hd]; exact hG⟩
/-- a call -/
theorem flow3_call {i : Nat} {o : Oper} {d : Nat} (hd : o.dst = some d)
    (h : ∀ a w, FlowAt3 G st M B ps a0 ops o a w → Wants ops o a ∧ ∃ f args, (execOp a.eval o).run P w = .ok (.enter f args) w ∧ Calls P f args w fun e w' => ∃ v, e = .returned v ∧ B w' ∧ (∀ d u, G d u w → G d u w') ∧ (∀ j u, M j u w → M j u w') ∧ PtrsApart ps (a.put (some d) v) w' ∧ G d v w') : FlowStep3 P Q G st M B ps a0 ops i o := by
  intro a w hF hi
  obtain ⟨hw, f, args, hr, hc⟩ := h a w hF
  unfold Wants at hw
  unfold wpOp
  simp only [hi, hw, if_true]
  refine Or.inl ?_
  unfold Oper.wp
  rw [hr]
  refine Calls.mono hc fun e w' he => ?_
  obtain ⟨v, rfl, hB, hRG, hRM, hP, hG⟩ := he
  exact ⟨v, rfl, hB, hRG, fun j oj _ _ _ h => hRM j _ h, by rw [hd]; exact hP, by rw [hd]; exact hG⟩
end
end Go.Proofs.YtcmnecnbcohaeaaGreatDoor

/- Blocks known whole, and what a call may have written: plain facts on worlds. -/
namespace Go.Proofs.YtcmnecnbcohaeaaGreatDoor
open Go.RowKit

/-- Block B is a row of the cells L, none of them frozen. -/
def Blk (w : World) (B : Nat) (T : TypeId) (L : List Value) : Prop := w.heap[B]? = some (.cells L.toArray T (0, 0))

theorem Blk.lt {w : World} {B : Nat} {T : TypeId} {L : List Value} (h : Blk w B T L) : B < w.heap.size := by
  rcases Nat.lt_or_ge B w.heap.size with h' | h'
  · exact h'
  · unfold Blk at h; simp [Array.getElem?_eq_none h'] at h
theorem Blk.cell {w : World} {B : Nat} {T : TypeId} {L : List Value} (h : Blk w B T L) {i : Nat} {v : Value} (hv : L[i]? = some v) : w.cell? ⟨B, i, none⟩ = some v := by
  unfold Blk at h; simp [World.cell?, h, hv]
theorem Blk.free {w : World} {B : Nat} {T : TypeId} {L : List Value} (h : Blk w B T L) (i : Nat) : w.frozen? ⟨B, i, none⟩ = false := by
  unfold Blk at h; simp [World.frozen?, h]
theorem Blk.set {w : World} {B : Nat} {T : TypeId} {L : List Value} (h : Blk w B T L) (i : Nat) (v : Value) : Blk (w.setCell ⟨B, i, none⟩ v) B T (L.set i v) := by
  have hlt := h.lt
  unfold Blk at h ⊢
  have h' : w.heap[B] = .cells L.toArray T (0, 0) := by simpa [Array.getElem?_eq_getElem hlt] using h
  show (w.heap.modify B _)[B]? = _
  rw [Array.getElem?_eq_getElem (by simpa using hlt), Array.getElem_modify_self, h']
  simp
theorem Blk.other {w : World} {B : Nat} {T : TypeId} {L : List Value} (h : Blk w B T L) {a : Addr} (ha : a.block ≠ B) (v : Value) : Blk (w.setCell a v) B T L := by
  unfold Blk at h ⊢; rw [Below.heap_setCell _ _ _ _ (fun e => ha e.symm)]; exact h
theorem Blk.alloc {w : World} {B : Nat} {T : TypeId} {L : List Value} (h : Blk w B T L) (o : Obj) : Blk (w.alloc o) B T L := by
  have hlt := h.lt
  unfold Blk at h ⊢; rw [Below.heap_alloc _ _ _ hlt]; exact h
theorem Blk.drewN {w : World} {B : Nat} {T : TypeId} {L : List Value} (h : Blk w B T L) (n : Nat) : Blk (w.drewN n) B T L := h
theorem Blk.drew {w : World} {B : Nat} {T : TypeId} {L : List Value} (h : Blk w B T L) : Blk w.drew B T L := h
theorem Blk.grown {w w' : World} {B : Nat} {T : TypeId} {L : List Value} {row : Option Nat} (h : Blk w B T L) (hg : w.grownBy w' row) (hr : some B ≠ row) : Blk w' B T L := by
  have hlt := h.lt
  unfold Blk at h ⊢; rw [hg.block B hlt hr]; exact h
theorem Blk.new (w : World) (L : List Value) (T : TypeId) : Blk (w.alloc (.cells L.toArray T)) w.heap.size T L := by
  show (w.heap.push _)[w.heap.size]? = _
  simp

theorem gb_refl (w : World) (row : Option Nat) : w.grownBy w row := ⟨rfl, rfl, rfl, Nat.le_refl _, fun _ _ _ => rfl⟩
theorem gb_trans {a b c : World} {row : Option Nat} (h : a.grownBy b row) (k : b.grownBy c row) : a.grownBy c row :=
  ⟨k.os.trans h.os, k.tape.trans h.tape, k.output.trans h.output, Nat.le_trans h.size k.size, fun i hi hr => (k.block i (Nat.lt_of_lt_of_le hi h.size) hr).trans (h.block i hi hr)⟩
theorem gb_row {a b : World} (h : a.grownBy b none) (row : Option Nat) : a.grownBy b row :=
  ⟨h.os, h.tape, h.output, h.size, fun i hi _ => h.block i hi (by simp)⟩
/-- what is written lies in a block that is new -/
theorem gb_new {a b : World} {B : Nat} (h : a.grownBy b (some B)) (hB : a.heap.size ≤ B) (row : Option Nat) : a.grownBy b row :=
  ⟨h.os, h.tape, h.output, h.size, fun i hi _ => h.block i hi (by intro e; cases e; omega)⟩
/-- .. in a block that is new to an elder world -/
theorem gb_then {a b c : World} {B : Nat} {row : Option Nat} (h : a.grownBy b row) (k : b.grownBy c (some B)) (hB : a.heap.size ≤ B) : a.grownBy c row :=
  ⟨k.os.trans h.os, k.tape.trans h.tape, k.output.trans h.output, Nat.le_trans h.size k.size, fun i hi hr => (k.block i (Nat.lt_of_lt_of_le hi h.size) (by intro e; cases e; omega)).trans (h.block i hi hr)⟩
theorem gb_alloc {a w : World} {row : Option Nat} (h : a.grownBy w row) (o : Obj) : a.grownBy (w.alloc o) row := gb_trans h (World.grownBy_alloc w o row)
theorem gb_drewN {a w : World} {row : Option Nat} (h : a.grownBy w row) (n : Nat) : a.grownBy (w.drewN n) row := ⟨h.os, h.tape, h.output, h.size, h.block⟩
theorem gb_drew {a w : World} {row : Option Nat} (h : a.grownBy w row) : a.grownBy w.drew row := ⟨h.os, h.tape, h.output, h.size, h.block⟩
theorem gb_set {a w : World} {B : Nat} (h : a.grownBy w (some B)) (i : Nat) (v : Value) : a.grownBy (w.setCell ⟨B, i, none⟩ v) (some B) :=
  gb_trans h ⟨rfl, rfl, rfl, by simp [World.setCell], fun k _ hr => Below.heap_setCell _ _ _ _ (fun e => hr (by rw [e]))⟩
theorem gb_set_new {a w : World} {row : Option Nat} (h : a.grownBy w row) {p : Addr} (hp : a.heap.size ≤ p.block) (v : Value) : a.grownBy (w.setCell p v) row :=
  ⟨h.os, h.tape, h.output, by simp [World.setCell]; exact h.size, fun k hk hr => by rw [Below.heap_setCell _ _ _ _ (by omega)]; exact h.block k hk hr⟩
theorem gb_below {a b : World} (h : a.grownBy b none) : Below a.heap.size a b := ⟨h.os, h.tape, h.output, h.size, fun k hk => h.block k hk (by simp)⟩
theorem gb_cell {a b : World} {row : Option Nat} (h : a.grownBy b row) {p : Addr} (hp : p.block < a.heap.size) (hr : some p.block ≠ row) : b.cell? p = a.cell? p := World.cell?_of_block (w := a) (h.block p.block hp hr)

theorem gb_setRow {a w : World} {row : Option Nat} (h : a.grownBy w row) {g : Nat} (hg : a.heap.size ≤ g) (cs : Array Value) : a.grownBy (w.setRow g cs) row :=
  ⟨h.os, h.tape, h.output, by simp; exact h.size, fun k hk hr => by rw [setRow_other _ _ _ _ (by omega)]; exact h.block k hk hr⟩
theorem gb_setRow' {a w : World} {g : Nat} (h : a.grownBy w (some g)) (cs : Array Value) : a.grownBy (w.setRow g cs) (some g) :=
  ⟨h.os, h.tape, h.output, by simp; exact h.size, fun k hk hr => by rw [setRow_other _ _ _ _ (fun e => hr (by rw [e]))]; exact h.block k hk hr⟩
theorem Blk.row {w : World} {B : Nat} {T : TypeId} {L : List Value} (h : Blk w B T L) (L' : List Value) : Blk (w.setRow B L'.toArray) B T L' := setRow_heap _ _ _ _ _ _ h
theorem Blk.rowOther {w : World} {B : Nat} {T : TypeId} {L : List Value} (h : Blk w B T L) {g : Nat} (hg : g ≠ B) (cs : Array Value) : Blk (w.setRow g cs) B T L := by
  unfold Blk at h ⊢; rw [setRow_other _ _ _ _ (fun e => hg e.symm)]; exact h

/-- n cells from place o on, one by one. -/
def putN (L : List Value) (o : Nat) (f : Nat → Value) : Nat → List Value
  | 0 => L
  | k + 1 => (putN L o f k).set (o + k) (f k)
theorem putN_length (L : List Value) (o : Nat) (f : Nat → Value) (k : Nat) : (putN L o f k).length = L.length := by
  induction k with
  | zero => rfl
  | succ k ih => simp [putN, ih]
theorem putN_get (L : List Value) (o : Nat) (f : Nat → Value) (k i : Nat) (hk : o + k ≤ L.length) : (putN L o f k)[i]? = if o ≤ i ∧ i < o + k then some (f (i - o)) else L[i]? := by
  induction k with
  | zero => simp [putN]; omega
  | succ k ih =>
    have hl := putN_length L o f k
    rw [putN, List.getElem?_set, ih (by omega), hl]
    by_cases h : o + k = i
    · subst h; simp only [if_true]; rw [if_pos (by omega), if_pos (by omega)]; congr 2; omega
    · rw [if_neg h]
      by_cases h2 : o ≤ i ∧ i < o + k
      · rw [if_pos h2, if_pos (by omega)]
      · rw [if_neg h2, if_neg (by omega)]
theorem putN_is (L : List Value) (o : Nat) (f : Nat → Value) (k : Nat) (hk : o + k ≤ L.length) : putN L o f k = L.take o ++ (List.range k).map f ++ L.drop (o + k) := by
  apply List.ext_getElem?
  intro i
  rw [putN_get L o f k i hk]
  by_cases h1 : i < o
  · rw [if_neg (by omega), List.append_assoc, List.getElem?_append_left (by simp; omega), List.getElem?_take, if_pos h1]
  · by_cases h2 : i < o + k
    · rw [if_pos (by omega), List.append_assoc, List.getElem?_append_right (by simp; omega), List.getElem?_append_left (by simp; omega)]
      simp [Nat.min_eq_left (show o ≤ L.length by omega), show i - o < k by omega]
    · rw [if_neg (by omega), List.getElem?_append_right (by simp; omega)]
      simp [Nat.min_eq_left (show o ≤ L.length by omega)]
      congr 1; omega
end Go.Proofs.YtcmnecnbcohaeaaGreatDoor

/- Rows of bytes: what lies below a bound and stays; rows of one's own; appends; parts of slices. -/
namespace Go.Proofs.YtcmnecnbcohaeaaGreatDoor
open Go.RowKit
namespace Ow

def u8N (n : Nat) : Value := .int .u8 (n : Int)
/-- a slice of the bytes l, that lie below block B -/
structure BytesAt (w : World) (B : Nat) (a : Option Addr) (cap : Nat) (l : List Nat) : Prop where
  lim : B ≤ w.heap.size
  fits : l.length ≤ cap
  top : cap < 9223372036854775808
  byte : ∀ i, l.getD i 0 < 256
  cells : l.length = 0 ∨ ∃ pb po, a = some ⟨pb, po, none⟩ ∧ pb < B ∧ ∀ i, i < l.length → w.cell? ⟨pb, po + i, none⟩ = some (u8N (l.getD i 0))
theorem BytesAt.kept {w w' : World} {B cap : Nat} {a : Option Addr} {l : List Nat} (h : BytesAt w B a cap l) {row : Option Nat} (hg : w.grownBy w' row) (hr : ∀ r, row = some r → B ≤ r) : BytesAt w' B a cap l := by
  refine ⟨Nat.le_trans h.lim hg.size, h.fits, h.top, h.byte, ?_⟩
  rcases h.cells with h0 | ⟨pb, po, ha, hlt, hc⟩
  · exact Or.inl h0
  · exact Or.inr ⟨pb, po, ha, hlt, fun i hi => by rw [gb_cell hg (p := ⟨pb, po + i, none⟩) (Nat.lt_of_lt_of_le hlt h.lim) (fun e => by have := hr _ e.symm; simp at this; omega)]; exact hc i hi⟩
theorem BytesAt.stay {w w' : World} {B cap : Nat} {a : Option Addr} {l : List Nat} (h : BytesAt w B a cap l) (hg : w.grownBy w' none) : BytesAt w' B a cap l := h.kept hg (fun r e => by cases e)
theorem BytesAt.up {w : World} {B B' cap : Nat} {a : Option Addr} {l : List Nat} (h : BytesAt w B a cap l) (hB : B ≤ B') (hl : B' ≤ w.heap.size) : BytesAt w B' a cap l := by
  refine ⟨hl, h.fits, h.top, h.byte, ?_⟩
  rcases h.cells with h0 | ⟨pb, po, ha, hlt, hc⟩
  · exact Or.inl h0
  · exact Or.inr ⟨pb, po, ha, by omega, hc⟩
theorem u8_getD {l : List Nat} {i : Nat} (h : i < l.length) : (l.map u8N)[i]? = some (u8N (l.getD i 0)) := by
  rw [List.getElem?_map, List.getElem?_eq_getElem h, List.getD_eq_getElem?_getD, List.getElem?_eq_getElem h]; rfl
theorem blk_at (w : World) {B : Nat} (L : List Value) (T : TypeId) (h : w.heap.size = B) : Blk (w.alloc (.cells L.toArray T)) B T L := h ▸ Blk.new w L T
/-- a block of bytes, as a slice -/
theorem blk_bytes {w : World} {N B n cap : Nat} {T : TypeId} {l : List Nat} {tl : List Value} (h : Blk w N T (l.map u8N ++ tl)) (hl : l.length = n) (hc : n ≤ cap) (ht : cap < 9223372036854775808) (hb : ∀ i, l.getD i 0 < 256) (hB : N < B) (hw : B ≤ w.heap.size) :
    BytesAt w B (some ⟨N, 0, none⟩) cap l := by
  subst hl
  refine ⟨hw, hc, ht, hb, Or.inr ⟨N, 0, rfl, hB, fun i hi => ?_⟩⟩
  rw [Nat.zero_add]
  apply h.cell
  rw [List.getElem?_append_left (by simpa using hi)]
  exact u8_getD hi
theorem info_u8 : ∃ i z, Tryz.prog.info? 5 = some i ∧ i.zero = some z ∧ i.size = 1 ∧ i.bytes = 1 ∧ z.cells.size = 1 := by
  have h : (Tryz.prog.info? 5).map (fun i => (i.zero.map (·.cells.size), i.size, i.bytes)) = some (some 1, 1, 1) := by kernel_rfl
  cases hi : Tryz.prog.info? 5 with
  | none => rw [hi] at h; cases h
  | some i =>
    rw [hi] at h
    simp only [Option.map_some, Option.some.injEq, Prod.mk.injEq] at h
    cases hz : i.zero with
    | none => rw [hz] at h; cases h.1
    | some z => rw [hz] at h; exact ⟨i, z, rfl, hz, h.2.1, h.2.2, by simpa using h.1⟩
/-- several elements appended to a row of one's own -/
theorem append_u8 (w : World) (base n m c : Nat) (v : Value) (xs news : List Value) (ad : Addr) (hown : w.ownsRow base 5 1 v n xs) (hl : news.length = m) (hnews : ∀ j u, news[j]? = some u → w.cell? (ad.add j) = some u) (h1 : ∀ u ∈ news, u.oneCell' = true)
    (hn : (n + m) * 1 ≤ 140737488355328) (hbase : base ≤ w.heap.size) :
    ∃ v' w', (Builtin.append_ #[22, 22] 22 #[v, .slice (some ad) m c]).run Tryz.prog w = .ok v' w' ∧ w'.ownsRow base 5 1 v' (n + m) (xs ++ news) ∧ w.grownBy w' v.ownBlock := by
  obtain ⟨i, z, hi, hz, hs, hb, hc⟩ := info_u8
  obtain ⟨v', w', hr, ho, hg, _⟩ := run_append_own w base 22 22 5 i z 1 1 (P := Tryz.prog) Tryz.underlying22 hi hz hs hb hc (by decide) v n xs hown ad m c news (by omega) hnews h1 (by unfold maxLen; omega) hn hbase
  exact ⟨v', w', hr, ho, hg⟩
/-- one element, out of a box that was just made -/
theorem append1_u8 (w : World) (base n : Nat) (v x : Value) (xs : List Value) (hown : w.ownsRow base 5 1 v n xs) (h1 : x.oneCell' = true) (hn : (n + 1) * 1 ≤ 140737488355328) (hbase : base ≤ w.heap.size) :
    ∃ v' w', (Builtin.append_ #[22, 22] 22 #[v, .slice (some ⟨w.heap.size, 0, none⟩) 1 1]).run Tryz.prog (w.alloc (.cells #[x] 5)) = .ok v' w' ∧ w'.ownsRow base 5 1 v' (n + 1) (xs ++ [x]) ∧ w.grownBy w' v.ownBlock := by
  obtain ⟨v', w', hr, ho, hg⟩ := append_u8 (w.alloc (.cells #[x] 5)) base n 1 1 v xs [x] ⟨w.heap.size, 0, none⟩ (hown.alloc _) rfl (fun j u hu => by
    have hj : j = 0 := by
      rcases Nat.eq_zero_or_pos j with h | h
      · exact h
      · rw [List.getElem?_eq_none (by simp; omega)] at hu; cases hu
    subst hj
    rw [show x = u by simpa using hu]
    exact (Blk.new w [u] 5).cell (i := 0) rfl) (fun u hu => by rw [List.mem_singleton.1 hu]; exact h1) hn (by simp; omega)
  exact ⟨v', w', hr, ho, gb_trans (gb_alloc (gb_refl _ _) _) hg⟩

/-- what is written lies in a row of one's own -/
theorem gb_own {w0 w w' : World} {base e n : Nat} {v : Value} {xs : List Value} (h : w0.grownBy w none) (ho : w.ownsRow base e 1 v n xs) (hb : w0.heap.size ≤ base) (hg : w.grownBy w' v.ownBlock) : w0.grownBy w' none :=
  ⟨hg.os.trans h.os, hg.tape.trans h.tape, hg.output.trans h.output, Nat.le_trans h.size hg.size, fun k hk _ => (hg.block k (Nat.lt_of_lt_of_le hk h.size) (fun e => by have := (ho.lt k e.symm).1; omega)).trans (h.block k hk (by simp))⟩
theorem own_drewN {w : World} {base e n : Nat} {v : Value} {xs : List Value} (h : w.ownsRow base e 1 v n xs) (k : Nat) : (w.drewN k).ownsRow base e 1 v n xs := ⟨h.1, h.2⟩
theorem own_some {w : World} {base e n : Nat} {v : Value} {xs : List Value} (h : w.ownsRow base e 1 v n xs) (hn : 0 < n) : ∃ g c, v = .slice (some ⟨g, 0, none⟩) n c ∧ base ≤ g ∧ n ≤ c ∧ c ≤ maxLen ∧ g < w.heap.size := by
  rcases h.2 with ⟨_, h0⟩ | ⟨g, c, cur, rfl, hb, hg, hnc, hcm, _⟩
  · omega
  · exact ⟨g, c, rfl, hb, hnc, hcm, lt_of_block hg⟩
theorem own_cell {w : World} {base e n g c : Nat} {xs : List Value} (h : w.ownsRow base e 1 (.slice (some ⟨g, 0, none⟩) n c) n xs) {j : Nat} {u : Value} (hu : xs[j]? = some u) : w.cell? ⟨g, j, none⟩ = some u := by
  have hl : xs.length = n := by have := h.1; omega
  have hj : j < n := by
    rcases Nat.lt_or_ge j n with h' | h'
    · exact h'
    · rw [List.getElem?_eq_none (by omega)] at hu; cases hu
  rw [h.cellAt j (by omega)]; exact hu

/-- an append whose run is known -/
theorem wpList_append_run {P : Program} {w : World} {ops : Array Oper} {rest : List Oper} {o : Oper} {a : Act} {Q : Exit → Act → World → Prop} (hgd : o.guard = none) (s x : Operand) (t : TypeId)
    (ho : o.op = .call { callee := .builtin .append, args := #[s, x], argTypes := #[t, t] }) (ht : o.type = t) (v y : Value) (hs : a.eval s = v) (hx : a.eval x = y) (v' : Value) (w' : World)
    (hr : (Builtin.append_ #[t, t] t #[v, y]).run P w = .ok v' w') (h : wpList P ops Q rest (a.put o.dst v') w') : wpList P ops Q (o :: rest) a w := by
  refine wpList_plain hgd fun K hK => ?_
  rw [← ht] at hr
  unfold Oper.wp
  simp [execOp, ho, resolve, invoke, builtin, hs, hx, ← ht, hr, Result.andThen]
  exact hK _ _ h
theorem append_none (w : World) (base n c : Nat) (v : Value) (xs : List Value) (hown : w.ownsRow base 5 1 v n xs) :
    (Builtin.append_ #[22, 22] 22 #[v, .slice none 0 c]).run Tryz.prog w = .ok v w := by
  obtain ⟨i, z, hi, hz, hs, hb, hc⟩ := info_u8
  rcases hown.2 with ⟨rfl, rfl⟩ | ⟨g, cap, cur, rfl, _, _, hnc, _⟩
  · simp [Builtin.append_, run_underlying Tryz.underlying22, sizeOf, typeInfo, hi, Builtin.lenOf, Builtin.firstCells]
  · simp [Builtin.append_, run_underlying Tryz.underlying22, sizeOf, typeInfo, hi, Builtin.lenOf, Builtin.firstCells, hnc, storeCells]
theorem own_base {w : World} {b b' e n : Nat} {v : Value} {xs : List Value} (h : w.ownsRow b e 1 v n xs) (hb : b' ≤ b) : w.ownsRow b' e 1 v n xs := by
  refine ⟨h.1, ?_⟩
  rcases h.2 with h' | ⟨g, c, cur, e1, e2, e3⟩
  · exact Or.inl h'
  · exact Or.inr ⟨g, c, cur, e1, Nat.le_trans hb e2, e3⟩
theorem own_kept {w w' : World} {base e n : Nat} {v : Value} {xs : List Value} (h : w.ownsRow base e 1 v n xs) (hg : w.grownBy w' none) : w'.ownsRow base e 1 v n xs :=
  h.kept hg (by cases v.ownBlock <;> simp)
/-- bytes that lie somewhere, appended where there is room -/
theorem append_bytes_fits (w : World) (base g n0 c B cap n : Nat) (xs : List Value) (a : Option Addr) (p : List Nat) (hown : w.ownsRow base 5 1 (.slice (some ⟨g, 0, none⟩) n0 c) n0 xs) (hn : p.length = n) (hP : BytesAt w B a cap p) (hroom : n0 + n ≤ c) :
    ∃ w', (Builtin.append_ #[22, 22] 22 #[.slice (some ⟨g, 0, none⟩) n0 c, .slice a n cap]).run Tryz.prog w = .ok (.slice (some ⟨g, 0, none⟩) (n0 + n) c) w' ∧ w'.ownsRow base 5 1 (.slice (some ⟨g, 0, none⟩) (n0 + n) c) (n0 + n) (xs ++ p.map u8N) ∧ w.grownBy w' (some g) := by
  subst hn
  obtain ⟨i, z, hi, hz, hs, hb, hc⟩ := info_u8
  rcases a with _ | ad
  · have h0 : p.length = 0 := by
      rcases hP.cells with h | ⟨_, _, h, _⟩
      · exact h
      · cases h
    obtain rfl : p = [] := List.eq_nil_of_length_eq_zero h0
    exact ⟨w, append_none w base n0 cap _ xs hown, by simpa using hown, gb_refl _ _⟩
  · refine run_append_fits w base 22 22 5 i 1 (P := Tryz.prog) Tryz.underlying22 hi hs g n0 c xs hown ad p.length cap (p.map u8N) (by simp) (fun j u hu => ?_) (fun u hu => ?_) hroom
    · rcases hP.cells with h | ⟨pb, po, h, _, hc⟩
      · obtain rfl : p = [] := List.eq_nil_of_length_eq_zero h
        simp at hu
      · cases h
        have hj : j < p.length := by
          rcases Nat.lt_or_ge j p.length with h | h
          · exact h
          · rw [List.getElem?_eq_none (by simpa using h)] at hu; cases hu
        have hadd : (⟨pb, po, none⟩ : Addr).add j = ⟨pb, po + j, none⟩ := by unfold Addr.add; split <;> simp_all
        rw [hadd, hc j hj, ← hu, u8_getD hj]
    · obtain ⟨x, _, rfl⟩ := List.mem_map.1 hu
      rfl
/-- .. and where there may be none -/
theorem append_bytes (w : World) (base n0 B cap n : Nat) (v : Value) (xs : List Value) (a : Option Addr) (p : List Nat) (hown : w.ownsRow base 5 1 v n0 xs) (hn : p.length = n) (hP : BytesAt w B a cap p)
    (hb : n0 + n ≤ 140737488355328) (hbase : base ≤ w.heap.size) :
    ∃ v' w', (Builtin.append_ #[22, 22] 22 #[v, .slice a n cap]).run Tryz.prog w = .ok v' w' ∧ w'.ownsRow base 5 1 v' (n0 + n) (xs ++ p.map u8N) ∧ w.grownBy w' v.ownBlock := by
  subst hn
  rcases a with _ | ad
  · have h0 : p.length = 0 := by
      rcases hP.cells with h | ⟨_, _, h, _⟩
      · exact h
      · cases h
    obtain rfl : p = [] := List.eq_nil_of_length_eq_zero h0
    exact ⟨v, w, append_none w base n0 cap _ xs hown, by simpa using hown, gb_refl _ _⟩
  · refine append_u8 w base n0 p.length cap v xs (p.map u8N) ad hown (by simp) (fun j u hu => ?_) (fun u hu => ?_) (by omega) hbase
    · rcases hP.cells with h | ⟨pb, po, h, _, hc⟩
      · obtain rfl : p = [] := List.eq_nil_of_length_eq_zero h
        simp at hu
      · cases h
        have hj : j < p.length := by
          rcases Nat.lt_or_ge j p.length with h | h
          · exact h
          · rw [List.getElem?_eq_none (by simpa using h)] at hu; cases hu
        have hadd : (⟨pb, po, none⟩ : Addr).add j = ⟨pb, po + j, none⟩ := by unfold Addr.add; split <;> simp_all
        rw [hadd, hc j hj, ← hu, u8_getD hj]
    · obtain ⟨x, _, rfl⟩ := List.mem_map.1 hu
      rfl
/-- one byte, out of a box that was just made, where there is room -/
theorem append_byte_fits (w : World) (base g n0 c x : Nat) (xs : List Value) (hx : x < 256) (hown : w.ownsRow base 5 1 (.slice (some ⟨g, 0, none⟩) n0 c) n0 xs) (hroom : n0 + 1 ≤ c) :
    ∃ w', (Builtin.append_ #[22, 22] 22 #[.slice (some ⟨g, 0, none⟩) n0 c, .slice (some ⟨w.heap.size, 0, none⟩) 1 1]).run Tryz.prog (w.alloc (.cells #[u8N x] 5)) = .ok (.slice (some ⟨g, 0, none⟩) (n0 + 1) c) w' ∧ w'.ownsRow base 5 1 (.slice (some ⟨g, 0, none⟩) (n0 + 1) c) (n0 + 1) (xs ++ [u8N x]) ∧ w.grownBy w' (some g) := by
  have hb := Blk.new w [u8N x] 5
  have hp : BytesAt (w.alloc (.cells #[u8N x] 5)) (w.heap.size + 1) (some ⟨w.heap.size, 0, none⟩) 1 [x] :=
    blk_bytes (l := [x]) (n := 1) (tl := []) hb rfl (by omega) (by omega) (fun i => by cases i <;> simp; omega) (by omega) (by simp)
  obtain ⟨w', hr, ho, hg⟩ := append_bytes_fits (w.alloc (.cells #[u8N x] 5)) base g n0 c (w.heap.size + 1) 1 1 xs _ [x] (hown.alloc _) rfl hp hroom
  exact ⟨w', hr, ho, gb_trans (gb_alloc (gb_refl _ _) _) hg⟩
set_option maxRecDepth 100000 in
/-- x[lo:hi] of a slice of bytes -/
theorem slice_run (a : Option Addr) (n cap lo k : Nat) (h : lo + k ≤ cap) :
    ∃ a', (∀ w, (Instr.slice 22 (.slice a n cap) (some (.int .i64 (lo : Int))) (some (.int .i64 ((lo : Int) + (k : Int)))) none).run Tryz.prog w = .ok (.slice a' k (cap - lo)) w) ∧ (lo < cap → ∀ pb po, a = some ⟨pb, po, none⟩ → a' = some ⟨pb, po + lo, none⟩) := by
  obtain ⟨j, hj, hs⟩ : ∃ j, Tryz.prog.info? (Tryz.prog.elem 22) = some j ∧ j.size = 1 := by
    have h1 : (Tryz.prog.info? (Tryz.prog.elem 22)).map (·.size) = some 1 := by kernel_rfl
    cases hq : Tryz.prog.info? (Tryz.prog.elem 22) with
    | none => rw [hq] at h1; cases h1
    | some j => rw [hq] at h1; exact ⟨j, rfl, by simpa using h1⟩
  have e1 : ((lo : Int) + (k : Int)).toNat = lo + k := by omega
  refine ⟨if cap = lo then a else a.map (·.add lo), fun w => ?_, ?_⟩
  · rw [run_slice_lh w 22 a n cap Tryz.underlying22 .i64 .i64 _ _ (by omega) (by omega) (by omega), e1, Int.toNat_natCast]
    simp [sizeOf, typeInfo, hj, hs, sliced]
  · intro hlt pb po e
    rw [if_neg (by omega), e]
    simp [Addr.add]

set_option maxRecDepth 100000 in
/-- x[lo:] of a slice of bytes -/
theorem slice_from (a : Option Addr) (n cap lo : Nat) (h : lo ≤ n) :
    ∃ a', (∀ w, (Instr.slice 22 (.slice a n cap) (some (.int .i64 (lo : Int))) none none).run Tryz.prog w = .ok (.slice a' (n - lo) (cap - lo)) w) ∧ (lo < cap → ∀ pb po, a = some ⟨pb, po, none⟩ → a' = some ⟨pb, po + lo, none⟩) := by
  obtain ⟨j, hj, hs⟩ : ∃ j, Tryz.prog.info? (Tryz.prog.elem 22) = some j ∧ j.size = 1 := by
    have h1 : (Tryz.prog.info? (Tryz.prog.elem 22)).map (·.size) = some 1 := by kernel_rfl
    cases hq : Tryz.prog.info? (Tryz.prog.elem 22) with
    | none => rw [hq] at h1; cases h1
    | some j => rw [hq] at h1; exact ⟨j, rfl, by simpa using h1⟩
  refine ⟨if cap = lo then a else a.map (·.add lo), fun w => ?_, ?_⟩
  · rw [run_slice_l w 22 a n cap Tryz.underlying22 .i64 _ (by omega) (by omega), Int.toNat_natCast]
    simp [sizeOf, typeInfo, hj, hs, sliced]
  · intro hlt pb po e
    rw [if_neg (by omega), e]
    simp [Addr.add]

end Ow
end Go.Proofs.YtcmnecnbcohaeaaGreatDoor

/- Regions that draw their order, whatever is in their slots: values, slices of bytes, with guards; no stores. -/
namespace Go.Proofs.YtcmnecnbcohaeaaGreatDoor
open Go.RowKit Ow
namespace Fg
def AllAt (a : Act) : Nat → List Value → Prop
  | _, [] => True
  | i, v :: r => a.tmps.getD i undef = v ∧ AllAt a (i + 1) r
theorem allAt_get {a : Act} : ∀ (vs : List Value) (i k : Nat) (v : Value), AllAt a i vs → vs[k]? = some v → a.tmps.getD (i + k) undef = v := by
  intro vs
  induction vs with
  | nil => intro i k v _ h; simp at h
  | cons x r ih =>
    intro i k v h hk
    cases k with
    | zero => simp at hk; subst hk; exact h.1
    | succ k => have := ih (i + 1) k v h.2 (by simpa using hk); rwa [show i + (k + 1) = i + 1 + k by omega]
theorem frame_is {a : Act} {vs : List Value} (hs : a.tmps.size = vs.length) (h : AllAt a 0 vs) (hd : a.defers = []) : a = { tmps := vs.toArray, defers := [] } := by
  have ht : a.tmps = vs.toArray := by
    apply Array.ext_getElem?
    intro i
    by_cases hi : i < a.tmps.size
    · have h2 : i < vs.length := by omega
      have := allAt_get vs 0 i vs[i] h (List.getElem?_eq_getElem h2)
      rw [Nat.zero_add] at this
      simp [hi] at this
      rw [Array.getElem?_eq_getElem hi, this]
      simp [h2]
    · rw [Array.getElem?_eq_none (by omega), Array.getElem?_eq_none (by simp; omega)]
  cases a
  simp at ht hd
  rw [ht, hd]

/-- what a slot has, and keeps -/
structure It where
  p : Value → World → Prop
  m : ∀ v w w', p v w → w.grownBy w' none → p v w'
def It.any : It := ⟨fun _ _ => True, fun _ _ _ _ _ => trivial⟩
def It.val (x : Value) : It := ⟨fun v _ => v = x, fun _ _ _ h _ => h⟩
/-- a slice of n bytes -/
def It.byt (n : Nat) (l : List Nat) : It := ⟨fun v w => ∃ a cap B, v = .slice a n cap ∧ BytesAt w B a cap l, fun _ _ _ ⟨a, cap, B, e, h⟩ hg => ⟨a, cap, B, e, h.stay hg⟩⟩
def its (L : List It) (d : Nat) (v : Value) (w : World) : Prop := (L.getD d .any).p v w
theorem its_grown {L : List It} {w w' : World} (hg : w.grownBy w' none) (d : Nat) (v : Value) (h : its L d v w) : its L d v w' := (L.getD d .any).m _ _ _ h hg
section
variable {P : Program} {ops : Array Oper} {Q : Exit → Act → World → Prop} {L : List It} {w0 : World} {a0 : Act}
abbrev At (L : List It) (w0 : World) (a0 : Act) (ops : Array Oper) (o : Oper) (a : Act) (w : World) : Prop := FlowAt3 (its L) (fun _ => 0) (fun _ _ _ => True) (fun w => w0.grownBy w none) [] a0 ops o a w
abbrev Step (P : Program) (Q : Exit → Act → World → Prop) (L : List It) (w0 : World) (a0 : Act) (ops : Array Oper) (i : Nat) (o : Oper) : Prop := FlowStep3 P Q (its L) (fun _ => 0) (fun _ _ _ => True) (fun w => w0.grownBy w none) [] a0 ops i o
theorem ptrs_nil (a : Act) (w : World) : PtrsApart [] a w := by unfold PtrsApart; simp
theorem value {i : Nat} {o : Oper} {d : Nat} (hd : o.dst = some d)
    (h : ∀ a w, At L w0 a0 ops o a w → Wants ops o a ∧ ∃ v w', (execOp a.eval o).run P w = .ok (.value v) w' ∧ w.grownBy w' none ∧ its L d v w') : Step P Q L w0 a0 ops i o :=
  flow3_value hd fun a w hF => by
    obtain ⟨hw, v, w', hr, hg, hG⟩ := h a w hF
    exact ⟨hw, v, w', hr, gb_trans hF.base hg, fun d u => its_grown hg d u, fun _ _ h => h, ptrs_nil _ _, hG⟩
theorem call {i : Nat} {o : Oper} {d : Nat} (hd : o.dst = some d)
    (h : ∀ a w, At L w0 a0 ops o a w → Wants ops o a ∧ ∃ f args, (execOp a.eval o).run P w = .ok (.enter f args) w ∧ Calls P f args w fun e w' => ∃ v, e = .returned v ∧ w.grownBy w' none ∧ its L d v w') : Step P Q L w0 a0 ops i o :=
  flow3_call hd fun a w hF => by
    obtain ⟨hw, f, args, hr, hc⟩ := h a w hF
    refine ⟨hw, f, args, hr, hc.mono fun e w' he => ?_⟩
    obtain ⟨v, rfl, hg, hG⟩ := he
    exact ⟨v, rfl, gb_trans hF.base hg, fun d u => its_grown hg d u, fun _ _ h => h, ptrs_nil _ _, hG⟩
theorem skipped {i : Nat} {o : Oper} {d : Nat} (hd : o.dst = some d) (hG : ∀ w, its L d undef w)
    (h : ∀ a w, At L w0 a0 ops o a w → Region.wanted o (yielded ops a.tmps) = false) : Step P Q L w0 a0 ops i o :=
  flow3_skipped hd (fun s hs => by cases hs) (fun w _ => hG w) h
theorem no_store {ops : Array Oper} (h : (ops.toList.all fun o => o.dst.isSome) = true) : stOk ops (fun _ => 0) = true := by
  unfold stOk
  rw [List.all_eq_true]
  intro j hj
  have hj2 := List.mem_range.1 hj
  rw [Array.getElem?_eq_getElem hj2]
  have := List.all_eq_true.1 h ops[j] (by simp)
  simp [this]
end
theorem not_wants_undef {ops : Array Oper} {o : Oper} {a : Act} {j d : Nat} {b : Bool} (h : o.guard = some (j, b)) (hj : (ops[j]?).bind (·.dst) = some d) (hd : d < a.tmps.size) (hv : a.tmps.getD d undef = undef) : Region.wanted o (yielded ops a.tmps) = false := by
  unfold Region.wanted yielded
  rw [h]
  have : a.tmps[d]? = some undef := by
    rw [Array.getElem?_eq_getElem hd]
    simp [hd] at hv
    rw [hv]
  simp [hj, this, undef]
end Fg
end Go.Proofs.YtcmnecnbcohaeaaGreatDoor

/- A region that draws its order and ends, whatever the order, in ONE operation that waits for all others (a store, a call that writes); plus the runs of single operations as laws. No program is named here. -/
namespace Go.Proofs.YtcmnecnbcohaeaaGreatDoor
open Go Go.RowKit
/-! ### blocks, by ranges -/
theorem Blk.range {w : World} {B : Nat} {T : TypeId} {L : List Value} (h : Blk w B T L) (o : Nat) (cs : List Value) (hL : (L.drop o).take cs.length = cs) : w.rangeAt B o cs := fun j v hv => by
  have hj : j < cs.length := (List.getElem?_eq_some_iff.1 hv).1
  refine h.cell ?_
  rw [← hL, List.getElem?_take_of_lt hj, List.getElem?_drop] at hv
  exact hv
theorem Blk.there {w : World} {B : Nat} {T : TypeId} {L : List Value} (h : Blk w B T L) (o n : Nat) (hn : o + n ≤ L.length) : w.there B o n := fun j hj => by
  have hlt : o + j < L.length := by omega
  exact ⟨by rw [h.cell (List.getElem?_eq_getElem hlt)]; rfl, h.free _⟩
/-- cells put over others, from o on -/
def over : List Value → Nat → List Value → List Value
  | L, _, [] => L
  | L, o, v :: r => over (L.set o v) (o + 1) r
theorem over_length : ∀ (cs L : List Value) (o : Nat), (over L o cs).length = L.length
  | [], _, _ => rfl
  | v :: r, L, o => by rw [over, over_length r]; simp
theorem over_eq : ∀ (cs L : List Value) (o : Nat), o + cs.length ≤ L.length → over L o cs = L.take o ++ cs ++ L.drop (o + cs.length)
  | [], L, o, _ => by rw [over]; simp
  | v :: r, L, o, h => by
    have hl : o < L.length := by simp at h; omega
    rw [over, over_eq r (L.set o v) (o + 1) (by simp at h ⊢; omega)]
    have e1 : (L.set o v).take (o + 1) = L.take o ++ [v] := by
      rw [List.take_set, List.take_succ_eq_append_getElem hl, List.set_append_right _ _ (by simp; omega)]
      simp [Nat.min_eq_left (Nat.le_of_lt hl)]
    have e2 : (L.set o v).drop (o + 1 + r.length) = L.drop (o + (v :: r).length) := by
      rw [List.drop_set_of_lt (by omega), List.length_cons]
      congr 1
      omega
    rw [e1, e2]
    simp
theorem over_all (cs L : List Value) (h : L.length = cs.length) : over L 0 cs = cs := by
  rw [over_eq cs L 0 (by omega)]
  simp [List.drop_eq_nil_of_le (show L.length ≤ cs.length by omega)]
theorem Blk.setCells : ∀ {cs : List Value} {w : World} {B : Nat} {T : TypeId} {L : List Value} (_ : Blk w B T L) (o : Nat), Blk (w.setCells B o cs) B T (over L o cs)
  | [], _, _, _, _, h, _ => h
  | v :: r, w, B, T, L, h, o => by
    rw [World.setCells]
    exact Blk.setCells (cs := r) (h.set o v) (o + 1)
theorem Blk.setAll {cs : List Value} {w : World} {B : Nat} {T : TypeId} {L : List Value} (h : Blk w B T L) (hl : L.length = cs.length) : Blk (w.setCells B 0 cs) B T cs := by
  have := h.setCells (cs := cs) 0
  rwa [over_all cs L hl] at this
theorem Blk.setCells_other : ∀ {cs : List Value} {w : World} {B C : Nat} {T : TypeId} {L : List Value} (_ : Blk w B T L) (o : Nat) (_ : C ≠ B), Blk (w.setCells C o cs) B T L
  | [], _, _, _, _, _, h, _, _ => h
  | v :: r, w, B, C, T, L, h, o, hne => by
    rw [World.setCells]
    exact Blk.setCells_other (cs := r) (h.other (a := ⟨C, o, none⟩) hne v) (o + 1) hne
theorem gb_setCells : ∀ {cs : List Value} {a w : World} {B : Nat} (_ : a.grownBy w (some B)) (o : Nat), a.grownBy (w.setCells B o cs) (some B)
  | [], _, _, _, h, _ => h
  | v :: r, a, w, B, h, o => by
    rw [World.setCells]
    exact gb_setCells (cs := r) (gb_set h o v) (o + 1)
theorem gb_setCells_new : ∀ {cs : List Value} {a w : World} {row : Option Nat} {B : Nat} (_ : a.grownBy w row) (_ : a.heap.size ≤ B) (o : Nat), a.grownBy (w.setCells B o cs) row
  | [], _, _, _, _, h, _, _ => h
  | v :: r, a, w, row, B, h, hB, o => by
    rw [World.setCells]
    exact gb_setCells_new (cs := r) (gb_set_new h (p := ⟨B, o, none⟩) hB v) hB (o + 1)
namespace Fg
/-- one of the first k operations yields slot d -/
def isDstTo (ops : Array Oper) (k d : Nat) : Bool := (List.range k).any fun j => (ops[j]?).bind (·.dst) == some d
/-- from k on the operations go in the text's order, and wait for all that stand ahead -/
def tailOk (ops : Array Oper) (k : Nat) : Bool := (List.range ops.size).all fun t => decide (t < k) || (List.range t).all fun j => (List.range (t + 1)).any fun i => decide (j < i) && ((ops[i]?).map fun o => waitsFor o j).getD false
/-- a pointer to a block that was made since, and what it has -/
def It.fresh (T : TypeId) (V : List Value) (n0 : Nat) : It := ⟨fun v w => ∃ N, v = .pointer (some ⟨N, 0, none⟩) ∧ n0 ≤ N ∧ Blk w N T V, fun _ _ _ ⟨N, e, hn, h⟩ hg => ⟨N, e, hn, h.grown hg (by simp)⟩⟩
/-- a slice of a block that was made since -/
def It.row (T : TypeId) (V : List Value) (n n0 : Nat) : It := ⟨fun v w => ∃ N, v = .slice (some ⟨N, 0, none⟩) n n ∧ n0 ≤ N ∧ Blk w N T V, fun _ _ _ ⟨N, e, hn, h⟩ hg => ⟨N, e, hn, h.grown hg (by simp)⟩⟩
/-- it stays whatever is written in block S -/
def It.Steady (S : Nat) (it : It) : Prop := ∀ v w w', it.p v w → w.grownBy w' (some S) → it.p v w'
theorem any_steady (S : Nat) : It.any.Steady S := fun _ _ _ _ _ => trivial
theorem val_steady (S : Nat) (x : Value) : (It.val x).Steady S := fun _ _ _ h _ => h
theorem fresh_steady {S n0 : Nat} (T : TypeId) (V : List Value) (h : S < n0) : (It.fresh T V n0).Steady S := fun _ _ _ ⟨N, e, hn, hb⟩ hg => ⟨N, e, hn, hb.grown hg (fun e => by have := Option.some.inj e; omega)⟩
theorem row_steady {S n0 : Nat} (T : TypeId) (V : List Value) (n : Nat) (h : S < n0) : (It.row T V n n0).Steady S := fun _ _ _ ⟨N, e, hn, hb⟩ hg => ⟨N, e, hn, hb.grown hg (fun e => by have := Option.some.inj e; omega)⟩
theorem its_steady {S : Nat} {L : List It} (hL : ∀ it ∈ L, it.Steady S) {w w' : World} (hg : w.grownBy w' (some S)) (d : Nat) (v : Value) (h : its L d v w) : its L d v w' := by
  unfold its at *
  by_cases hd : d < L.length
  · rw [List.getD_eq_getElem?_getD, List.getElem?_eq_getElem hd] at *
    exact hL _ (List.getElem_mem hd) v w w' h hg
  · rw [List.getD_eq_getElem?_getD, List.getElem?_eq_none (by omega)] at *
    trivial
section
variable {P : Program} {ops : Array Oper} {Q : Exit → Act → World → Prop} {L : List It} {B : World → Prop} {a0 : Act} {ps : List Nat}
structure AtP (k : Nat) (ps : List Nat) (L : List It) (B : World → Prop) (a0 : Act) (ops : Array Oper) (o : Oper) (a : Act) (w : World) : Prop where
  base : B w
  size : a.tmps.size = a0.tmps.size
  ptrs : PtrsApart ps a w
  rest : ∀ d, isDstTo ops k d = false → a.tmps.getD d undef = a0.tmps.getD d undef
  dep : ∀ d, waits ops o d = true → its L d (a.tmps.getD d undef) w
def PostP (ps : List Nat) (L : List It) (B : World → Prop) (o : Oper) (a : Act) (w : World) (v : Value) (w' : World) : Prop :=
  B w' ∧ (∀ d u, its L d u w → its L d u w') ∧ PtrsApart ps (a.put o.dst v) w' ∧ ∀ d, o.dst = some d → its L d v w'
def StepP (k : Nat) (ps : List Nat) (P : Program) (Q : Exit → Act → World → Prop) (L : List It) (B : World → Prop) (a0 : Act) (ops : Array Oper) (i : Nat) (o : Oper) : Prop :=
  ∀ a w, AtP k ps L B a0 ops o a w → ops[i]? = some o → wpOp P ops Q i (fun a' w' => ∃ v, a' = a.put o.dst v ∧ PostP ps L B o a w v w') a w
theorem not_in {d : Nat} (h : (ps.all fun s => s != d) = true) : ∀ s ∈ ps, (some d : Option Tmp) ≠ some s := fun s hs e => by
  have := (List.all_eq_true.1 h) s hs
  rw [Option.some.inj e] at this
  simp at this
theorem stepValue {k i : Nat} {o : Oper} {d : Nat} (hd : o.dst = some d) (h : ∀ a w, AtP k ps L B a0 ops o a w → Wants ops o a ∧ ∃ v w', (execOp a.eval o).run P w = .ok (.value v) w' ∧ B w' ∧ (∀ d u, its L d u w → its L d u w') ∧ PtrsApart ps (a.put (some d) v) w' ∧ its L d v w') : StepP k ps P Q L B a0 ops i o := by
  intro a w hF hi
  obtain ⟨hw, v, w', hr, hB, hRG, hP, hG⟩ := h a w hF
  unfold Wants at hw
  unfold wpOp
  simp only [hi, hw, if_true]
  refine Or.inl ?_
  unfold Oper.wp
  rw [hr]
  exact ⟨v, rfl, hB, hRG, by rw [hd]; exact hP, fun d' e => by rw [hd] at e; cases e; exact hG⟩
theorem stepCall {k i : Nat} {o : Oper} {d : Nat} (hd : o.dst = some d)
    (h : ∀ a w, AtP k ps L B a0 ops o a w → Wants ops o a ∧ ∃ f args, (execOp a.eval o).run P w = .ok (.enter f args) w ∧ Calls P f args w fun e w' => ∃ v, e = .returned v ∧ B w' ∧ (∀ d u, its L d u w → its L d u w') ∧ PtrsApart ps (a.put (some d) v) w' ∧ its L d v w') : StepP k ps P Q L B a0 ops i o := by
  intro a w hF hi
  obtain ⟨hw, f, args, hr, hc⟩ := h a w hF
  unfold Wants at hw
  unfold wpOp
  simp only [hi, hw, if_true]
  refine Or.inl ?_
  unfold Oper.wp
  rw [hr]
  refine Calls.mono hc fun e w' he => ?_
  obtain ⟨v, rfl, hB, hRG, hP, hG⟩ := he
  exact ⟨v, rfl, hB, hRG, by rw [hd]; exact hP, fun d' e => by rw [hd] at e; cases e; exact hG⟩
theorem valueP {k i : Nat} {o : Oper} {d : Nat} (hBs : ∀ w w', B w → w.grownBy w' none → B w') (hd : o.dst = some d) (hps : (ps.all fun s => s != d) = true)
    (h : ∀ a w, AtP k ps L B a0 ops o a w → Wants ops o a ∧ ∃ v w', (execOp a.eval o).run P w = .ok (.value v) w' ∧ w.grownBy w' none ∧ its L d v w') : StepP k ps P Q L B a0 ops i o :=
  stepValue hd fun a w hF => by
    obtain ⟨hw, v, w', hr, hg, hG⟩ := h a w hF
    exact ⟨hw, v, w', hr, hBs _ _ hF.base hg, fun d u => its_grown hg d u, ptrs_put hF.ptrs hg.size (not_in hps), hG⟩
theorem allocP {k i : Nat} {o : Oper} {d : Nat} (hBs : ∀ w w', B w → w.grownBy w' none → B w') (hd : o.dst = some d) (hlt : d < a0.tmps.size)
    (h : ∀ a w, AtP k ps L B a0 ops o a w → Wants ops o a ∧ ∃ w', (execOp a.eval o).run P w = .ok (.value (.pointer (some ⟨w.heap.size, 0, none⟩))) w' ∧ w.grownBy w' none ∧ w.heap.size < w'.heap.size ∧ its L d (.pointer (some ⟨w.heap.size, 0, none⟩)) w') : StepP k ps P Q L B a0 ops i o :=
  stepValue hd fun a w hF => by
    obtain ⟨hw, w', hr, hg, hs, hG⟩ := h a w hF
    exact ⟨hw, _, w', hr, hBs _ _ hF.base hg, fun d u => its_grown hg d u, ptrs_new hF.ptrs hs (by rw [hF.size]; exact hlt), hG⟩
theorem callP {k i : Nat} {o : Oper} {d : Nat} (hBs : ∀ w w', B w → w.grownBy w' none → B w') (hd : o.dst = some d) (hps : (ps.all fun s => s != d) = true)
    (h : ∀ a w, AtP k ps L B a0 ops o a w → Wants ops o a ∧ ∃ f args, (execOp a.eval o).run P w = .ok (.enter f args) w ∧ Calls P f args w fun e w' => ∃ v, e = .returned v ∧ w.grownBy w' none ∧ its L d v w') : StepP k ps P Q L B a0 ops i o :=
  stepCall hd fun a w hF => by
    obtain ⟨hw, f, args, hr, hc⟩ := h a w hF
    refine ⟨hw, f, args, hr, hc.mono fun e w' he => ?_⟩
    obtain ⟨v, rfl, hg, hG⟩ := he
    exact ⟨v, rfl, hBs _ _ hF.base hg, fun d u => its_grown hg d u, ptrs_put hF.ptrs hg.size (not_in hps), hG⟩
theorem skippedP {k i : Nat} {o : Oper} {d : Nat} (hd : o.dst = some d) (hps : (ps.all fun s => s != d) = true) (hG : ∀ w, its L d undef w)
    (h : ∀ a w, AtP k ps L B a0 ops o a w → Region.wanted o (yielded ops a.tmps) = false) : StepP k ps P Q L B a0 ops i o := by
  intro a w hF hi
  have hw := h a w hF
  unfold wpOp
  simp only [hi, hw]
  exact ⟨undef, rfl, hF.base, fun _ _ h => h, ptrs_put hF.ptrs (Nat.le_refl _) (fun s hs e => not_in hps s hs (hd ▸ e)), fun d' e => by rw [hd] at e; cases e; exact hG w⟩
structure FlowS (ps : List Nat) (L : List It) (B : World → Prop) (a0 : Act) (ops : Array Oper) (k : Nat) (listed : Array Bool) (a : Act) (w : World) : Prop where
  base : B w
  size : a.tmps.size = a0.tmps.size
  defers : a.defers = a0.defers
  rest : ∀ d, isDstTo ops k d = false → a.tmps.getD d undef = a0.tmps.getD d undef
  slots : ∀ j oj d, ops[j]? = some oj → listed.getD j false = true → oj.dst = some d → its L d (a.tmps.getD d undef) w
  closed : ∀ j oj, ops[j]? = some oj → listed.getD j false = true → ∀ e ∈ oj.after, Region.binds .any e = true → listed.getD e.on false = true
  notk : ∀ j, k ≤ j → listed.getD j false = false
  ptrs : PtrsApart ps a w
def StepsS (k : Nat) (ps : List Nat) (P : Program) (Q : Exit → Act → World → Prop) (L : List It) (B : World → Prop) (a0 : Act) (ops : Array Oper) : Nat → List Oper → Prop
  | _, [] => True
  | i, o :: r => ((∃ d, o.dst = some d) ∧ StepP k ps P Q L B a0 ops i o) ∧ StepsS k ps P Q L B a0 ops (i + 1) r
theorem stepsS_get {k : Nat} : ∀ (l : List Oper) (i j : Nat) (o : Oper), StepsS k ps P Q L B a0 ops i l → l[j]? = some o → (∃ d, o.dst = some d) ∧ StepP k ps P Q L B a0 ops (i + j) o := by
  intro l
  induction l with
  | nil => intro i j o h hk; simp at hk
  | cons x r ih =>
    intro i j o h hk
    cases j with
    | zero => simp at hk; subst hk; exact h.1
    | succ j => have := ih (i + 1) j o h.2 (by simpa using hk); rwa [show i + (j + 1) = i + 1 + j by omega]
theorem inn {j : Nat} {oj : Oper} (hj : ops[j]? = some oj) : j < ops.size := by
  rcases Nat.lt_or_ge j ops.size with h' | h'
  · exact h'
  · rw [Array.getElem?_eq_none h'] at hj; cases hj
/-- one of the tail is ready: all ahead of it are done -/
theorem tail_all {k t : Nat} {listed : Array Bool} (htl : tailOk ops k = true) (ht : k ≤ t) (hr : t ∈ Region.ready .any ops listed)
    (closed : ∀ j oj, ops[j]? = some oj → listed.getD j false = true → ∀ e ∈ oj.after, Region.binds .any e = true → listed.getD e.on false = true) : ∀ j, j < t → listed.getD j false = true := by
  obtain ⟨_, o, hoi, hall⟩ := mem_ready.1 hr
  have h1 := (List.all_eq_true.1 htl) t (List.mem_range.2 (inn hoi))
  simp only [Bool.or_eq_true, decide_eq_true_eq, Nat.not_lt.2 ht, false_or] at h1
  have go : ∀ n j, j < t → t - j ≤ n → listed.getD j false = true := by
    intro n
    induction n with
    | zero => intro j hj hn; omega
    | succ n ihn =>
      intro j hj hn
      have h2 := (List.all_eq_true.1 h1) j (List.mem_range.2 hj)
      obtain ⟨m, hm, h3⟩ := List.any_eq_true.1 h2
      simp only [Bool.and_eq_true, decide_eq_true_eq] at h3
      have hm' := List.mem_range.1 hm
      obtain ⟨hjm, h3⟩ := h3
      cases hg : ops[m]? with
      | none => rw [hg] at h3; cases h3
      | some om =>
        rw [hg] at h3
        simp only [Option.map_some, Option.getD_some] at h3
        obtain ⟨q, hq, hb⟩ := Array.any_eq_true.1 h3
        simp only [Bool.and_eq_true, beq_iff_eq] at hb
        by_cases hmt : m = t
        · subst hmt
          rw [hg] at hoi
          cases hoi
          have := hall _ (Array.getElem_mem hq) hb.1
          rwa [hb.2] at this
        · have := closed m _ hg (ihn m (by omega) (by omega)) _ (Array.getElem_mem hq) hb.1
          rwa [hb.2] at this
  exact fun j hj => go _ j hj (Nat.le_refl _)
theorem wpOp_of_list {k : Nat} {o : Oper} {r : List Oper} {a : Act} {w : World} (hk : ops[k]? = some o) (h : wpList P ops Q (o :: r) a w) : wpOp P ops Q k (wpList P ops Q r) a w := by
  unfold wpOp
  simp only [hk]
  exact h
theorem tail_any {k0 : Nat} (ht : topo ops = true) (htl : tailOk ops k0 = true) : ∀ (m k fuel : Nat) (listed : Array Bool) (a : Act) (w : World), k0 ≤ k → ops.size = k + m → m ≤ fuel → listed.size = ops.size →
    (∀ j, j < k → listed.getD j false = true) → (∀ j, k ≤ j → listed.getD j false = false) → wpList P ops Q (ops.toList.drop k) a w → wpAny P .any ops Q fuel listed a w := by
  intro m
  induction m with
  | zero =>
    intro k fuel listed a w hk hs hf hls hall hnot h
    have hd : ops.toList.drop k = [] := List.drop_eq_nil_of_le (by simp; omega)
    rw [hd] at h
    have hr : Region.ready .any ops listed = [] := by
      cases hc : Region.ready .any ops listed with
      | nil => rfl
      | cons x r =>
        obtain ⟨h0, o, hoi, _⟩ := mem_ready.1 (show x ∈ Region.ready .any ops listed by rw [hc]; exact List.mem_cons_self ..)
        have hx := hall x (by have := inn hoi; omega)
        have hlt : x < listed.size := by rw [hls]; exact inn hoi
        simp [hlt] at h0 hx
        rw [h0] at hx
        cases hx
    cases fuel with
    | zero => exact ⟨hr, h⟩
    | succ f => exact ⟨fun _ => h, fun i hi => by rw [hr] at hi; cases hi⟩
  | succ m ih =>
    intro k fuel listed a w hk hs hf hls hall hnot h
    obtain ⟨f, rfl⟩ : ∃ f, fuel = f + 1 := ⟨fuel - 1, by omega⟩
    have hks : k < ops.size := by omega
    have closed : ∀ j oj, ops[j]? = some oj → listed.getD j false = true → ∀ e ∈ oj.after, Region.binds .any e = true → listed.getD e.on false = true := by
      intro j oj hj hl e he hb
      have ht1 := (List.all_eq_true.1 ht) j (List.mem_range.2 (inn hj))
      rw [hj] at ht1
      simp only [Option.map_some, Option.getD_some] at ht1
      have ht2 := (Array.all_eq_true_iff_forall_mem.1 ht1) _ he
      simp only [hb, Bool.not_true, Bool.false_or, decide_eq_true_eq] at ht2
      have hjk : j < k := by
        rcases Nat.lt_or_ge j k with h' | h'
        · exact h'
        · rw [hnot j h'] at hl; cases hl
      exact hall _ (by omega)
    refine ⟨fun hr => ?_, fun i hi => ?_⟩
    · have := all_listed ht hls hr k hks
      rw [hnot k (Nat.le_refl _)] at this
      cases this
    · obtain ⟨h0, o, hoi, _⟩ := mem_ready.1 hi
      have hik : i = k := by
        rcases Nat.lt_trichotomy i k with h' | h' | h'
        · have hx := hall i h'
          have hlt : i < listed.size := by rw [hls]; exact inn hoi
          simp [hlt] at h0 hx
          rw [h0] at hx
          cases hx
        · exact h'
        · have := tail_all htl (by omega) hi closed k h'
          rw [hnot k (Nat.le_refl _)] at this
          cases this
      subst hik
      have hd : ops.toList.drop i = o :: ops.toList.drop (i + 1) := by
        rw [List.drop_eq_getElem_cons (by simpa using hks)]
        congr 1
        rw [Array.getElem?_eq_getElem hks] at hoi
        simpa using Option.some.inj hoi
      rw [hd] at h
      refine wpOp_mono (fun a' w' h' => ?_) (wpOp_of_list hoi h)
      refine ih (i + 1) f _ a' w' (by omega) (by omega) (by omega) (by simpa using hls) (fun j hj => ?_) (fun j hj => ?_) h'
      · by_cases e : i = j
        · subst e
          have hlt : i < listed.size := by rw [hls]; exact hks
          simp [hlt]
        · rw [getD_set_ne false e]; exact hall j (by omega)
      · rw [getD_set_ne false (by omega)]; exact hnot j (by omega)
theorem flowS_any {k : Nat} (ht : topo ops = true) (ho : once (ops.extract 0 k) a0.tmps.size = true) (htl : tailOk ops k = true) (hk : k ≤ ops.size)
    (steps : StepsS k ps P Q L B a0 ops 0 (ops.toList.take k))
    (fin : ∀ a w, B w → a.tmps.size = a0.tmps.size → a.defers = a0.defers → (∀ d, isDstTo ops k d = false → a.tmps.getD d undef = a0.tmps.getD d undef) →
      (∀ d, isDstTo ops k d = true → its L d (a.tmps.getD d undef) w) → PtrsApart ps a w → wpList P ops Q (ops.toList.drop k) a w) :
    ∀ (fuel : Nat) (listed : Array Bool) (a : Act) (w : World), listed.size = ops.size → unlisted ops listed ≤ fuel → FlowS ps L B a0 ops k listed a w → wpAny P .any ops Q fuel listed a w := by
  have toTail : ∀ (fuel : Nat) (listed : Array Bool) (a : Act) (w : World), listed.size = ops.size → ops.size - k ≤ fuel → FlowS ps L B a0 ops k listed a w → (∀ j, j < k → listed.getD j false = true) → wpAny P .any ops Q fuel listed a w := by
    intro fuel listed a w hs hf hF hall
    refine tail_any ht htl (ops.size - k) k fuel listed a w (Nat.le_refl _) (by omega) hf hs hall hF.notk (fin a w hF.base hF.size hF.defers hF.rest (fun d hd => ?_) hF.ptrs)
    obtain ⟨j, hj, hb⟩ := List.any_eq_true.1 hd
    have hjk := List.mem_range.1 hj
    have hg : ops[j]? = some ops[j] := Array.getElem?_eq_getElem (by omega)
    rw [hg] at hb
    exact hF.slots j _ d hg (hall j hjk) (by simpa using hb)
  have hcount : ∀ (listed : Array Bool), (∀ j, k ≤ j → listed.getD j false = false) → listed.size = ops.size → ops.size - k ≤ unlisted ops listed := by
    intro listed hn hs
    unfold unlisted
    have hsub : (List.range' k (ops.size - k)).length ≤ ((List.range ops.size).filter fun i => !listed.getD i true).length := by
      have hp : List.Sublist (List.range' k (ops.size - k)) ((List.range ops.size).filter fun i => !listed.getD i true) := by
        have h1 : List.Sublist (List.range' k (ops.size - k)) (List.range ops.size) := by
          have e : List.range ops.size = List.range' 0 k ++ List.range' k (ops.size - k) := by
            rw [List.range_eq_range', show ops.size = k + (ops.size - k) by omega, ← List.range'_append_1]
            simp
          rw [e]
          exact List.sublist_append_right _ _
        have h2 := h1.filter fun i => !listed.getD i true
        have h3 : (List.range' k (ops.size - k)).filter (fun i => !listed.getD i true) = List.range' k (ops.size - k) := by
          rw [List.filter_eq_self]
          intro x hx
          have hx' := List.mem_range'_1.1 hx
          have := hn x hx'.1
          have hlt : x < listed.size := by omega
          simp [hlt] at this ⊢
          exact this
        rwa [h3] at h2
      exact hp.length_le
    simpa using hsub
  intro fuel
  induction fuel with
  | zero =>
    intro listed a w hs hu hF
    have hc := hcount listed hF.notk hs
    refine toTail 0 listed a w hs (by omega) hF (fun j hj => ?_)
    have hr : Region.ready .any ops listed = [] := by
      cases hc : Region.ready .any ops listed with
      | nil => rfl
      | cons x r =>
        have := unlisted_lt (ops := ops) (listed := listed) (i := x) (by rw [hc]; exact List.mem_cons_self ..)
        omega
    exact all_listed ht hs hr j (by omega)
  | succ fuel ih =>
    intro listed a w hs hu hF
    by_cases hdone : ∀ j, j < k → listed.getD j false = true
    · have hc := hcount listed hF.notk hs
      exact toTail (fuel + 1) listed a w hs (by omega) hF hdone
    refine ⟨fun hr => ?_, fun i hi => ?_⟩
    · exact absurd (fun j hj => all_listed ht hs hr j (by omega)) hdone
    obtain ⟨h0, o, hoi, hall⟩ := mem_ready.1 hi
    have hik : i < k := by
      rcases Nat.lt_or_ge i k with h' | h'
      · exact h'
      · exact absurd (fun j hj => tail_all htl h' hi hF.closed j (by omega)) hdone
    have hst := stepsS_get (ops.toList.take k) 0 i o steps (by rw [List.getElem?_take_of_lt hik, Array.getElem?_toList]; exact hoi)
    rw [Nat.zero_add] at hst
    obtain ⟨⟨d, hd⟩, hst⟩ := hst
    have hex : ∀ j, j < k → (ops.extract 0 k)[j]? = ops[j]? := fun j hj => by
      rw [Array.getElem?_extract_of_lt (by omega)]; simp
    have hat : AtP k ps L B a0 ops o a w := ⟨hF.base, hF.size, hF.ptrs, hF.rest, fun d hd => by
        obtain ⟨k, hk, hb⟩ := Array.any_eq_true.1 hd
        simp only [Bool.and_eq_true, beq_iff_eq] at hb
        have hl := hall _ (Array.getElem_mem hk) hb.1
        cases hx : ops[o.after[k].on]? with
        | none => rw [hx] at hb; cases hb.2
        | some oj => rw [hx] at hb; exact hF.slots _ oj d hx hl hb.2⟩
    refine wpOp_mono (fun a' w' h => ?_) (hst a w hat hoi)
    obtain ⟨v, rfl, hB, hRG, hPt, hG⟩ := h
    have hlt := unlisted_lt hi
    refine ih _ _ _ (by simpa using hs) (by omega) ⟨hB, ?_, ?_, ?_, ?_, ?_, ?_, hPt⟩
    · rw [← hF.size]; cases o.dst <;> simp [Act.put]
    · rw [← hF.defers]; cases o.dst <;> simp [Act.put]
    · intro d hd
      rw [← hF.rest d hd]
      have hne : o.dst ≠ some d := by
        intro e
        have : isDstTo ops k d = true := List.any_eq_true.2 ⟨i, List.mem_range.2 hik, by rw [hoi]; simpa using e⟩
        rw [hd] at this
        cases this
      exact put_getD hne
    · intro j oj d hj hl hd
      have hjk : j < k ∨ j = i := by
        by_cases e : i = j
        · exact Or.inr e.symm
        · rw [getD_set_ne false e] at hl
          rcases Nat.lt_or_ge j k with h' | h'
          · exact Or.inl h'
          · rw [hF.notk j h'] at hl; cases hl
      by_cases e : i = j
      · subst e
        rw [hoi] at hj
        cases hj
        have hd2 := once_lt ho ((hex i hik).trans hoi) hd
        rw [← hF.size] at hd2
        have hG := hG _ hd
        rw [hd]
        simpa [Act.put, hd2] using hG
      · rw [getD_set_ne false e] at hl
        have h1 := hF.slots j oj d hj hl hd
        have hv : (a.put o.dst v).tmps.getD d undef = a.tmps.getD d undef := by
          cases hod : o.dst with
          | none => rfl
          | some d' =>
            have := once_ne ho ((hex i hik).trans hoi) ((hex j (by omega)).trans hj) e hod
            rw [hd] at this
            simp [Act.put, Array.getElem?_setIfInBounds_ne (show d' ≠ d from fun e => this (by rw [e]))]
        rw [hv]
        exact hRG d _ h1
    · intro j oj hj hl e he hb
      by_cases ei : i = j
      · subst ei
        rw [hoi] at hj
        cases hj
        exact getD_set_true (hall e he hb)
      · rw [getD_set_ne false ei] at hl
        exact getD_set_true (hF.closed j oj hj hl e he hb)
    · intro j hj
      rw [getD_set_ne false (by omega)]; exact hF.notk j hj
/-- A REGION THAT DRAWS ITS ORDER, of which the operations from k on go as they stand. -/
theorem wp_region_tail {id : Nat} {w : World} (L : List It) (B : World → Prop) (k : Nat) (hB0 : B w.drew) (hm : P.follows .mixedOrders = true) (ht : topo ops = true) (ho : once (ops.extract 0 k) a0.tmps.size = true) (htl : tailOk ops k = true) (hk : k ≤ ops.size) (hps : PtrsApart ps a0 w.drew)
    (steps : StepsS k ps P Q L B a0 ops 0 (ops.toList.take k))
    (fin : ∀ a w', B w' → a.tmps.size = a0.tmps.size → a.defers = a0.defers → (∀ d, isDstTo ops k d = false → a.tmps.getD d undef = a0.tmps.getD d undef) →
      (∀ d, isDstTo ops k d = true → its L d (a.tmps.getD d undef) w') → PtrsApart ps a w' → wpList P ops Q (ops.toList.drop k) a w') : (Code.region id ops true).wp P Q a0 w :=
  wp_region_any hm (flowS_any ht ho htl hk steps fin ops.size _ a0 _ (by simp) (by unfold unlisted; exact Nat.le_trans (List.length_filter_le _ _) (by simp))
    ⟨hB0, rfl, rfl, fun _ _ => rfl, fun j oj d _ hl _ => by
      by_cases h : j < ops.size <;> simp [h] at hl, fun j oj _ hl => by
      by_cases h : j < ops.size <;> simp [h] at hl, fun j _ => by
      by_cases h : j < ops.size <;> simp [h], hps⟩)
theorem list_of_wpOp {k : Nat} {o : Oper} {r : List Oper} {a : Act} {w : World} (hk : ops[k]? = some o) (h : wpOp P ops Q k (wpList P ops Q r) a w) : wpList P ops Q (o :: r) a w := by
  unfold wpOp at h
  simp only [hk] at h
  exact h
/-- the same for a region in the text's order -/
theorem wp_region_plain {id : Nat} {w : World} (L : List It) (B : World → Prop) (k : Nat) (hB0 : B w) (ht : topo ops = true) (ho : once (ops.extract 0 k) a0.tmps.size = true) (hk : k ≤ ops.size) (hps : PtrsApart ps a0 w)
    (steps : StepsS k ps P Q L B a0 ops 0 (ops.toList.take k))
    (fin : ∀ a w', B w' → a.tmps.size = a0.tmps.size → a.defers = a0.defers → (∀ d, isDstTo ops k d = false → a.tmps.getD d undef = a0.tmps.getD d undef) →
      (∀ d, isDstTo ops k d = true → its L d (a.tmps.getD d undef) w') → PtrsApart ps a w' → wpList P ops Q (ops.toList.drop k) a w') : (Code.region id ops false).wp P Q a0 w := by
  refine wp_region_list ?_
  have go : ∀ (m i : Nat) (a : Act) (w' : World), i + m = k → B w' → a.tmps.size = a0.tmps.size → a.defers = a0.defers → (∀ d, isDstTo ops k d = false → a.tmps.getD d undef = a0.tmps.getD d undef) →
      (∀ j oj d, j < i → ops[j]? = some oj → oj.dst = some d → its L d (a.tmps.getD d undef) w') → PtrsApart ps a w' → wpList P ops Q (ops.toList.drop i) a w' := by
    intro m
    induction m with
    | zero =>
      intro i a w' hi hg hs hdf hr hsl hpt
      have hi' : i = k := by omega
      subst hi'
      refine fin a w' hg hs hdf hr (fun d hd => ?_) hpt
      obtain ⟨j, hj, hb⟩ := List.any_eq_true.1 hd
      have hjk := List.mem_range.1 hj
      have hgj : ops[j]? = some ops[j] := Array.getElem?_eq_getElem (by omega)
      rw [hgj] at hb
      exact hsl j _ d hjk hgj (by simpa using hb)
    | succ m ih =>
      intro i a w' hi hg hs hdf hr hsl hpt
      have hik : i < k := by omega
      have hil : i < ops.size := by omega
      have hoi : ops[i]? = some ops[i] := Array.getElem?_eq_getElem hil
      have hst := stepsS_get (ops.toList.take k) 0 i ops[i] steps (by rw [List.getElem?_take_of_lt hik, Array.getElem?_toList]; exact hoi)
      rw [Nat.zero_add] at hst
      obtain ⟨⟨d, hd⟩, hst⟩ := hst
      have hex : ∀ j, j < k → (ops.extract 0 k)[j]? = ops[j]? := fun j hj => by
        rw [Array.getElem?_extract_of_lt (by omega)]; simp
      have hat : AtP k ps L B a0 ops ops[i] a w' := ⟨hg, hs, hpt, hr, fun d hd => by
          obtain ⟨q, hq, hb⟩ := Array.any_eq_true.1 hd
          simp only [Bool.and_eq_true, beq_iff_eq] at hb
          have ht1 := (List.all_eq_true.1 ht) i (List.mem_range.2 hil)
          rw [hoi] at ht1
          simp only [Option.map_some, Option.getD_some] at ht1
          have ht2 := (Array.all_eq_true_iff_forall_mem.1 ht1) _ (Array.getElem_mem hq)
          simp only [hb.1, Bool.not_true, Bool.false_or, decide_eq_true_eq] at ht2
          cases hx : ops[ops[i].after[q].on]? with
          | none => rw [hx] at hb; cases hb.2
          | some oj => rw [hx] at hb; exact hsl _ oj d ht2 hx hb.2⟩
      have hdr : ops.toList.drop i = ops[i] :: ops.toList.drop (i + 1) := by
        rw [List.drop_eq_getElem_cons (by simpa using hil)]
        simp
      rw [hdr]
      refine list_of_wpOp hoi (wpOp_mono (fun a' w'' h => ?_) (hst a w' hat hoi))
      obtain ⟨v, rfl, hB, hRG, hPt, hG⟩ := h
      refine ih (i + 1) _ _ (by omega) hB ?_ ?_ ?_ ?_ hPt
      · rw [← hs]; cases ops[i].dst <;> simp [Act.put]
      · rw [← hdf]; cases ops[i].dst <;> simp [Act.put]
      · intro d hd
        rw [← hr d hd]
        have hne : ops[i].dst ≠ some d := by
          intro e
          have : isDstTo ops k d = true := List.any_eq_true.2 ⟨i, List.mem_range.2 hik, by rw [hoi]; simpa using e⟩
          rw [hd] at this
          cases this
        exact put_getD hne
      · intro j oj d' hj hgj hd'
        by_cases e : i = j
        · subst e
          rw [hoi] at hgj
          cases hgj
          have hd2 := once_lt ho ((hex i hik).trans hoi) hd'
          rw [← hs] at hd2
          have hG := hG _ hd'
          rw [hd']
          simpa [Act.put, hd2] using hG
        · have h1 := hsl j oj d' (by omega) hgj hd'
          have hv : (a.put ops[i].dst v).tmps.getD d' undef = a.tmps.getD d' undef := by
            cases hod : ops[i].dst with
            | none => rfl
            | some d'' =>
              have := once_ne ho ((hex i hik).trans hoi) ((hex j (by omega)).trans hgj) e hod
              rw [hd'] at this
              simp [Act.put, Array.getElem?_setIfInBounds_ne (show d'' ≠ d' from fun e => this (by rw [e]))]
          rw [hv]
          exact hRG d' _ h1
  have := go k 0 a0 w (by omega) hB0 rfl rfl (fun _ _ => rfl) (fun j _ _ hj => by omega) hps
  simpa using this
theorem ptrs_undef {a : Act} {w : World} (h : (ps.all fun s => match a.tmps.getD s undef with | .pointer _ => false | _ => true) = true) : PtrsApart ps a w := fun s hs C e => by
  have := (List.all_eq_true.1 h) s hs
  rw [e] at this
  cases this
/-- values of which those that are pointers go to blocks that are there, all apart -/
def ApartV (l : List Value) (w : World) : Prop := ∀ (i C : Nat), l[i]? = some (.pointer (some ⟨C, 0, none⟩)) → C < w.heap.size ∧ ∀ (j : Nat), j ≠ i → l[j]? ≠ some (.pointer (some ⟨C, 0, none⟩))
theorem ptrs_of {a : Act} {w : World} {l : List Value} (hl : l = ps.map fun s => a.tmps.getD s undef) (h : ApartV l w) : PtrsApart ps a w := by
  subst hl
  intro s hs C e
  obtain ⟨i, hi, rfl⟩ := List.mem_iff_getElem.1 hs
  have hg : (ps.map fun s => a.tmps.getD s undef)[i]? = some (.pointer (some ⟨C, 0, none⟩)) := by
    rw [List.getElem?_map, List.getElem?_eq_getElem hi, Option.map_some, e]
  refine ⟨(h i C hg).1, fun t ht hne e2 => ?_⟩
  obtain ⟨j, hj, rfl⟩ := List.mem_iff_getElem.1 ht
  refine (h i C hg).2 j (fun e3 => hne (by subst e3; rfl)) ?_
  rw [List.getElem?_map, List.getElem?_eq_getElem hj, Option.map_some, e2]
theorem apart_undef (l : List Value) (w : World) (h : (l.all fun v => match v with | .pointer _ => false | _ => true) = true) : ApartV l w := fun i C e => by
  have := (List.all_eq_true.1 h) _ (List.mem_of_getElem? e)
  cases this
theorem apart_one {N : Nat} {w : World} (h : N < w.heap.size) : ApartV [.pointer (some ⟨N, 0, none⟩)] w := fun i C e => by
  match i, e with
  | 0, e =>
    cases e
    refine ⟨h, fun j hj => ?_⟩
    match j, hj with
    | j + 1, _ => simp
theorem apart_three {A B C : Nat} {w : World} (a : A < w.heap.size) (b : B < w.heap.size) (c : C < w.heap.size) (ab : A ≠ B) (ac : A ≠ C) (bc : B ≠ C) : ApartV [.pointer (some ⟨A, 0, none⟩), .pointer (some ⟨B, 0, none⟩), .pointer (some ⟨C, 0, none⟩)] w := fun i X e => by
  match i, e with
  | 0, e =>
    cases e
    refine ⟨a, fun j hj => ?_⟩
    match j, hj with
    | 1, _ => simp <;> omega
    | 2, _ => simp <;> omega
    | j + 3, _ => simp
  | 1, e =>
    cases e
    refine ⟨b, fun j hj => ?_⟩
    match j, hj with
    | 0, _ => simp <;> omega
    | 2, _ => simp <;> omega
    | j + 3, _ => simp
  | 2, e =>
    cases e
    refine ⟨c, fun j hj => ?_⟩
    match j, hj with
    | 0, _ => simp <;> omega
    | 1, _ => simp <;> omega
    | j + 3, _ => simp
theorem ApartV.mono {l : List Value} {w w' : World} (h : ApartV l w) (hs : w.heap.size ≤ w'.heap.size) : ApartV l w' := fun i C e => ⟨Nat.lt_of_lt_of_le (h i C e).1 hs, (h i C e).2⟩
theorem apart_drew {l : List Value} {w : World} (h : ApartV l w) : ApartV l w.drew := h
/-- the next operation of a list -/
theorem wpl_value {o : Oper} {r : List Oper} {a : Act} {w w' : World} {v : Value} (hg : o.guard = none) (hr : (execOp a.eval o).run P w = .ok (.value v) w') (h : wpList P ops Q r (a.put o.dst v) w') : wpList P ops Q (o :: r) a w := by
  refine wpList_plain hg fun K hK => ?_
  unfold Oper.wp
  rw [hr]
  exact hK _ _ h
theorem wpl_skip {o : Oper} {r : List Oper} {a : Act} {w w' : World} (hg : o.guard = none) (hd : o.dst = none) (hr : (execOp a.eval o).run P w = .ok .skip w') (h : wpList P ops Q r a w') : wpList P ops Q (o :: r) a w := by
  refine wpList_plain hg fun K hK => ?_
  unfold Oper.wp
  rw [hr]
  have e : a.put o.dst undef = a := by rw [hd]; rfl
  show K (a.put o.dst undef) w'
  rw [e]
  exact hK _ _ h
theorem wpl_call {o : Oper} {r : List Oper} {a : Act} {w : World} {f : FuncId} {args : Array Value} (hg : o.guard = none) (hr : (execOp a.eval o).run P w = .ok (.enter f args) w)
    (hc : Calls P f args w fun e w' => ∃ v, e = .returned v ∧ wpList P ops Q r (a.put o.dst v) w') : wpList P ops Q (o :: r) a w := by
  refine wpList_plain hg fun K hK => ?_
  unfold Oper.wp
  rw [hr]
  refine Calls.mono hc fun e w' he => ?_
  obtain ⟨v, rfl, h⟩ := he
  exact hK _ _ h
/-! ### the run of one operation -/
theorem run_load {ρ : Operand → Value} {o : Oper} {w : World} {T : TypeId} {x : Operand} {b off : Nat} {cs : List Value} {d : TypeDesc} (ho : o.op = .load T x) (hx : ρ x = .pointer (some ⟨b, off, none⟩)) (hc : w.rangeAt b off cs)
    (hu : P.underlying T = some d) (hd : d.isRow = true) (hi : (P.info? T).map (·.size) = some cs.length) : (execOp ρ o).run P w = .ok (.value (.agg cs.toArray)) w := by
  unfold execOp
  simp only [ho, hx, Instr.loadAt, Instr.sureAddr, Sem.run_bind, Sem.run_pure, Result.andThen_ok, run_loadVar_mid w b off T cs d hc hu hd hi]
theorem run_store {ρ : Operand → Value} {o : Oper} {w : World} {T : TypeId} {x y : Operand} {b off : Nat} {cs : List Value} (ho : o.op = .store T x y) (hx : ρ x = .pointer (some ⟨b, off, none⟩)) (hy : ρ y = .agg cs.toArray)
    (ht : w.there b off cs.length) (hi : (P.info? T).map (·.size) = some cs.length) (h1 : cs.all (·.oneCell') = true) : (execOp ρ o).run P w = .ok .skip (w.setCells b off cs) := by
  unfold execOp
  simp only [ho, hx, hy, Instr.storeAt, Instr.sureAddr, Sem.run_bind, Sem.run_pure, Result.andThen_ok, run_storeVar_mid w b off T cs.toArray (by simpa using ht) (by simpa using hi) (by simpa using h1)]
theorem run_move {ρ : Operand → Value} {o : Oper} {w : World} {x : Operand} {v : Value} (ho : o.op = .move x) (hx : ρ x = v) : (execOp ρ o).run P w = .ok (.value v) w := by
  unfold execOp
  simp only [ho, hx, Sem.run_pure]
theorem run_assign {ρ : Operand → Value} {o : Oper} {w : World} {x : Operand} {v : Value} (ho : o.op = .assign x) (hx : ρ x = v) : (execOp ρ o).run P w = .ok (.value v) w := by
  unfold execOp
  simp only [ho, hx, Sem.run_pure]
theorem run_nilCheck {ρ : Operand → Value} {o : Oper} {w : World} {x : Operand} {p : Addr} (ho : o.op = .nilCheck x) (hx : ρ x = .pointer (some p)) : (execOp ρ o).run P w = .ok (.value (.pointer (some p))) w := by
  unfold execOp
  simp only [ho, hx, Sem.run_pure]
theorem run_fieldAddr {ρ : Operand → Value} {o : Oper} {w : World} {t : TypeId} {f : Nat} {x : Operand} {u v : Value} (ho : o.op = .fieldAddr t x f) (hx : ρ x = u) (hr : (Instr.fieldAt t u f).run P w = .ok v w) : (execOp ρ o).run P w = .ok (.value v) w := by
  unfold execOp
  simp only [ho, hx, Sem.run_bind, Sem.run_pure, Result.andThen_ok, hr]
theorem run_field {ρ : Operand → Value} {o : Oper} {w : World} {t : TypeId} {f : Nat} {x : Operand} {u v : Value} (ho : o.op = .field t x f) (hx : ρ x = u) (hr : (Instr.field t u f).run P w = .ok v w) : (execOp ρ o).run P w = .ok (.value v) w := by
  unfold execOp
  simp only [ho, hx, Sem.run_bind, Sem.run_pure, Result.andThen_ok, hr]
theorem run_build {ρ : Operand → Value} {o : Oper} {w : World} {t : TypeId} {parts : Array (Nat × Operand)} {vs : Array (Nat × Value)} {v : Value} (ho : o.op = .build t parts) (hx : (parts.map fun (i, x) => (i, ρ x)) = vs) (hr : (Instr.build t vs).run P w = .ok v w) : (execOp ρ o).run P w = .ok (.value v) w := by
  unfold execOp
  simp only [ho, hx, Sem.run_bind, Sem.run_pure, Result.andThen_ok, hr]
theorem run_buildSlice {ρ : Operand → Value} {o : Oper} {w w' : World} {t : TypeId} {len : Nat} {parts : Array (Nat × Operand)} {vs : Array (Nat × Value)} {v : Value} (ho : o.op = .buildSlice t len parts) (hx : (parts.map fun (i, x) => (i, ρ x)) = vs) (hr : (Instr.buildSlice t len vs).run P w = .ok v w') : (execOp ρ o).run P w = .ok (.value v) w' := by
  unfold execOp
  simp only [ho, hx, Sem.run_bind, Sem.run_pure, Result.andThen_ok, hr]
theorem run_extract {ρ : Operand → Value} {o : Oper} {w : World} {i : Nat} {x : Operand} {u v : Value} (ho : o.op = .extract x i) (hx : ρ x = u) (hr : (Instr.extract u i).run P w = .ok v w) : (execOp ρ o).run P w = .ok (.value v) w := by
  unfold execOp
  simp only [ho, hx, Sem.run_bind, Sem.run_pure, Result.andThen_ok, hr]
theorem run_enter {w : World} {f : FuncId} {fn : Func} {vs : Array Value} (hf : P.funcs[f]? = some fn) (hn : (fn.name == "runtime.NumGoroutine") = false) (hb : fn.body.isNone = false) : (callFunc f vs).run P w = .ok (.enter f vs) w := by
  have hn' : ¬ fn.name = "runtime.NumGoroutine" := by simpa using hn
  have hb' : ¬ fn.body = none := by rintro e; rw [e] at hb; cases hb
  simp [callFunc, hf, hn', hb']
theorem run_call {ρ : Operand → Value} {o : Oper} {w : World} {x : Operand} {f : FuncId} {args : Array Operand} {tys : Array TypeId} {vs : Array Value} (ho : o.op = .call { callee := .value x, args := args, argTypes := tys }) (hf : ρ x = .func (.func f) #[] #[]) (hv : args.map ρ = vs)
    (hc : (callFunc f vs).run P w = .ok (.enter f vs) w) : (execOp ρ o).run P w = .ok (.enter f vs) w := by
  unfold execOp
  simp only [ho]
  unfold resolve
  simp only [hv, hf]
  go_simp
end
/-! ### one store among the operations that draw -/
/-- a pointer to a block of n cells that was made since -/
def It.room (T : TypeId) (n n0 : Nat) : It := ⟨fun v w => ∃ N, v = .pointer (some ⟨N, 0, none⟩) ∧ n0 ≤ N ∧ ∃ V : List Value, V.length = n ∧ Blk w N T V, fun _ _ _ ⟨N, e, hn, V, hl, h⟩ hg => ⟨N, e, hn, V, hl, h.grown hg (by simp)⟩⟩
/-- it stays when a row is put over another block's, or its own, cells -/
def It.Over (it : It) : Prop := ∀ v w (N : Nat) (T : TypeId) (V cs : List Value), Blk w N T V → V.length = cs.length → it.p v w → it.p v (w.setCells N 0 cs)
def Stored1 (T : TypeId) (cs : List Value) (_ : Nat) (u : Value) (w : World) : Prop := ∃ N, u = .pointer (some ⟨N, 0, none⟩) ∧ Blk w N T cs
section
variable {P : Program} {ops : Array Oper} {Q : Exit → Act → World → Prop} {L : List It} {W : World} {a0 : Act} {ps : List Nat} {p : Nat} {T : TypeId} {cs : List Value}
abbrev AtM (W : World) (ps : List Nat) (p : Nat) (T : TypeId) (cs : List Value) (L : List It) (a0 : Act) (ops : Array Oper) (o : Oper) (a : Act) (w : World) : Prop := FlowAt3 (its L) (fun _ => p) (Stored1 T cs) (fun w => W.grownBy w none) ps a0 ops o a w
abbrev StepM (W : World) (ps : List Nat) (p : Nat) (T : TypeId) (cs : List Value) (P : Program) (Q : Exit → Act → World → Prop) (L : List It) (a0 : Act) (ops : Array Oper) (i : Nat) (o : Oper) : Prop := FlowStep3 P Q (its L) (fun _ => p) (Stored1 T cs) (fun w => W.grownBy w none) ps a0 ops i o
theorem stored1_grown {w w' : World} (hg : w.grownBy w' none) (j : Nat) (u : Value) (h : Stored1 T cs j u w) : Stored1 T cs j u w' := by
  obtain ⟨N, e, hb⟩ := h
  exact ⟨N, e, hb.grown hg (by simp)⟩
theorem valueM {i : Nat} {o : Oper} {d : Nat} (hd : o.dst = some d) (hps : (ps.all fun s => s != d) = true)
    (h : ∀ a w, AtM W ps p T cs L a0 ops o a w → Wants ops o a ∧ ∃ v w', (execOp a.eval o).run P w = .ok (.value v) w' ∧ w.grownBy w' none ∧ its L d v w') : StepM W ps p T cs P Q L a0 ops i o :=
  flow3_value hd fun a w hF => by
    obtain ⟨hw, v, w', hr, hg, hG⟩ := h a w hF
    exact ⟨hw, v, w', hr, gb_trans hF.base hg, fun d u => its_grown hg d u, fun j u => stored1_grown hg j u, ptrs_put hF.ptrs hg.size (not_in hps), hG⟩
theorem allocM {i : Nat} {o : Oper} {d : Nat} (hd : o.dst = some d) (hlt : d < a0.tmps.size)
    (h : ∀ a w, AtM W ps p T cs L a0 ops o a w → Wants ops o a ∧ ∃ w', (execOp a.eval o).run P w = .ok (.value (.pointer (some ⟨w.heap.size, 0, none⟩))) w' ∧ w.grownBy w' none ∧ w.heap.size < w'.heap.size ∧ its L d (.pointer (some ⟨w.heap.size, 0, none⟩)) w') : StepM W ps p T cs P Q L a0 ops i o :=
  flow3_value hd fun a w hF => by
    obtain ⟨hw, w', hr, hg, hs, hG⟩ := h a w hF
    exact ⟨hw, _, w', hr, gb_trans hF.base hg, fun d u => its_grown hg d u, fun j u => stored1_grown hg j u, ptrs_new hF.ptrs hs (by rw [hF.size]; exact hlt), hG⟩
theorem callM {i : Nat} {o : Oper} {d : Nat} (hd : o.dst = some d) (hps : (ps.all fun s => s != d) = true)
    (h : ∀ a w, AtM W ps p T cs L a0 ops o a w → Wants ops o a ∧ ∃ f args, (execOp a.eval o).run P w = .ok (.enter f args) w ∧ Calls P f args w fun e w' => ∃ v, e = .returned v ∧ w.grownBy w' none ∧ its L d v w') : StepM W ps p T cs P Q L a0 ops i o :=
  flow3_call hd fun a w hF => by
    obtain ⟨hw, f, args, hr, hc⟩ := h a w hF
    refine ⟨hw, f, args, hr, hc.mono fun e w' he => ?_⟩
    obtain ⟨v, rfl, hg, hG⟩ := he
    exact ⟨v, rfl, gb_trans hF.base hg, fun d u => its_grown hg d u, fun j u => stored1_grown hg j u, ptrs_put hF.ptrs hg.size (not_in hps), hG⟩
theorem skippedM {i : Nat} {o : Oper} {d : Nat} (hd : o.dst = some d) (hps : (ps.all fun s => s != d) = true) (hG : ∀ w, its L d undef w)
    (h : ∀ a w, AtM W ps p T cs L a0 ops o a w → Region.wanted o (yielded ops a.tmps) = false) : StepM W ps p T cs P Q L a0 ops i o :=
  flow3_skipped hd (fun s hs e => not_in hps s hs (by rw [e])) (fun w _ => hG w) h
theorem any_over : It.any.Over := fun _ _ _ _ _ _ _ _ _ => trivial
theorem val_over (x : Value) : (It.val x).Over := fun _ _ _ _ _ _ _ _ h => h
theorem room_over (T : TypeId) (n n0 : Nat) : (It.room T n n0).Over := fun v w N T' V cs hb hl ⟨N', e, hn, V', hl', hb'⟩ => by
  by_cases he : N = N'
  · subst he
    unfold Blk at hb hb'
    rw [hb] at hb'
    cases hb'
    exact ⟨N, e, hn, over V 0 cs, by rw [over_length]; exact hl', Blk.setCells hb 0⟩
  · exact ⟨N', e, hn, V', hl', hb'.setCells_other 0 he⟩
theorem its_over {L : List It} (hL : ∀ it ∈ L, it.Over) {w : World} {N : Nat} {T : TypeId} {V cs : List Value} (hb : Blk w N T V) (hl : V.length = cs.length) (d : Nat) (v : Value) (h : its L d v w) : its L d v (w.setCells N 0 cs) := by
  unfold its at *
  by_cases hd : d < L.length
  · rw [List.getD_eq_getElem?_getD, List.getElem?_eq_getElem hd] at *
    exact hL _ (List.getElem_mem hd) v w N T V cs hb hl h
  · rw [List.getD_eq_getElem?_getD, List.getElem?_eq_none (by omega)] at *
    trivial
theorem storeM {i : Nat} {o : Oper} {x y : Operand} (hd : o.dst = none) (ho : o.op = .store T x y) (hL : ∀ it ∈ L, it.Over) (hi : (P.info? T).map (·.size) = some cs.length) (h1 : cs.all (·.oneCell') = true)
    (h : ∀ a w, AtM W ps p T cs L a0 ops o a w → Wants ops o a ∧ ∃ N, a.tmps.getD p undef = .pointer (some ⟨N, 0, none⟩) ∧ a.eval x = .pointer (some ⟨N, 0, none⟩) ∧ a.eval y = .agg cs.toArray ∧ W.heap.size ≤ N ∧ ∃ V : List Value, V.length = cs.length ∧ Blk w N T V) : StepM W ps p T cs P Q L a0 ops i o :=
  flow3_store hd fun a w hF => by
    obtain ⟨hw, N, hp, hx, hy, hn, V, hl, hb⟩ := h a w hF
    refine ⟨hw, _, run_store ho hx hy (hb.there 0 cs.length (by omega)) hi h1, gb_setCells_new hF.base hn 0, fun d u => its_over hL hb hl d u, fun j oj _ _ _ hM => ?_, (gb_setCells (cs := cs) (gb_refl w (some N)) 0).size, ⟨N, hp, hb.setAll hl⟩⟩
    exact ⟨N, hp, hb.setAll hl⟩
end
end Fg
end Go.Proofs.YtcmnecnbcohaeaaGreatDoor

/- The document's field: a number's sixteen parts as a value, as a block. -/
namespace Go.Proofs.YtcmnecnbcohaeaaGreatDoor
open Go.RowKit Ns
namespace Nr
def pV (n : Nat) : Value := .int .u64 (n : Int)
def pL (l : List Nat) : List Value := l.map pV
theorem pL_len (l : List Nat) : (pL l).length = l.length := by simp [pL]
theorem pL_get (l : List Nat) (i : Nat) (h : i < l.length) : (pL l)[i]? = some (.int .u64 ((l.getD i 0 : Nat) : Int)) := by
  unfold pL
  rw [List.getElem?_map, List.getElem?_eq_getElem h, List.getD_eq_getElem?_getD, List.getElem?_eq_getElem h]
  rfl
theorem pL_set (l : List Nat) (i x : Nat) : (pL l).set i (.int .u64 (x : Int)) = pL (l.set i x) := by
  unfold pL
  rw [List.map_set]
  rfl
theorem pL_one (l : List Nat) : (pL l).all (·.oneCell') = true := by
  rw [List.all_eq_true]
  intro v hv
  obtain ⟨x, _, rfl⟩ := List.mem_map.1 hv
  rfl
/-- a number as a value -/
def nV (l : List Nat) : Value := .agg (pL l).toArray
abbrev zeros : List Nat := List.replicate 16 0
theorem V_zeros : V zeros = 0 := by decide
theorem info_N : (Tryz.prog.info? 31).map (·.size) = some 16 := by kernel_rfl
theorem cell {w : World} {B : Nat} {l : List Nat} (h : Blk w B 31 (pL l)) (i : Nat) (hi : i < l.length) : w.cell? ⟨B, i, none⟩ = some (.int .u64 ((l.getD i 0 : Nat) : Int)) := h.cell (pL_get l i hi)
theorem set {w : World} {B : Nat} {l : List Nat} (h : Blk w B 31 (pL l)) (i x : Nat) : Blk (w.setCell ⟨B, i, none⟩ (.int .u64 (x : Int))) B 31 (pL (l.set i x)) := by
  have := h.set i (.int .u64 (x : Int))
  rwa [pL_set] at this
/-- a number is loaded -/
theorem ld {P : Program} {ρ : Operand → Value} {o : Oper} {w : World} {x : Operand} {B : Nat} {l : List Nat} (ho : o.op = .load 31 x) (hx : ρ x = .pointer (some ⟨B, 0, none⟩)) (h : Blk w B 31 (pL l)) (hl : l.length = 16)
    (hu : P.underlying 31 = Tryz.prog.underlying 31) (hi : P.info? 31 = Tryz.prog.info? 31) : (execOp ρ o).run P w = .ok (.value (nV l)) w :=
  Fg.run_load ho hx (h.range 0 (pL l) (by rw [List.drop_zero, List.take_length])) (hu.trans Tryz.underlying31) rfl (by rw [hi, pL_len, hl]; exact info_N)
/-- and stored -/
theorem st {P : Program} {ρ : Operand → Value} {o : Oper} {w : World} {x y : Operand} {B : Nat} {l : List Nat} {L : List Value} (ho : o.op = .store 31 x y) (hx : ρ x = .pointer (some ⟨B, 0, none⟩)) (hy : ρ y = nV l) (h : Blk w B 31 L) (hL : L.length = 16) (hl : l.length = 16)
    (hi : P.info? 31 = Tryz.prog.info? 31) : (execOp ρ o).run P w = .ok .skip (w.setCells B 0 (pL l)) :=
  Fg.run_store ho hx hy (h.there 0 (pL l).length (by rw [pL_len, hl, hL]; decide)) (by rw [hi, pL_len, hl]; exact info_N) (pL_one l)
theorem stored {w : World} {B : Nat} {l : List Nat} {L : List Value} (h : Blk w B 31 L) (hL : L.length = 16) (hl : l.length = 16) : Blk (w.setCells B 0 (pL l)) B 31 (pL l) := h.setAll (by rw [hL, pL_len, hl])
theorem new {w : World} {B : Nat} (h : w.heap.size = B) (l : List Nat) : Blk (w.alloc (.cells (pL l).toArray 31)) B 31 (pL l) := h ▸ Blk.new w (pL l) _
/-- a variable, that is laid with a number -/
theorem var (w : World) (l : List Nat) (hl : l.length = 16) : Blk ((w.alloc (.cells (pL zeros).toArray 31)).setCells w.heap.size 0 (pL l)) w.heap.size 31 (pL l) ∧ w.grownBy ((w.alloc (.cells (pL zeros).toArray 31)).setCells w.heap.size 0 (pL l)) none ∧ w.heap.size < ((w.alloc (.cells (pL zeros).toArray 31)).setCells w.heap.size 0 (pL l)).heap.size := by
  have h := stored (l := l) (new (w := w) rfl zeros) rfl hl
  exact ⟨h, gb_setCells_new (gb_alloc (gb_refl w none) _) (Nat.le_refl _) 0, h.lt⟩
/-- two arguments, a result, a variable -/
theorem four (w0 : World) (a b : List Nat) : Blk ((((w0.alloc (.cells (pL a).toArray 31)).alloc (.cells (pL b).toArray 31)).alloc (.cells (pL zeros).toArray 31)).alloc (.cells (pL zeros).toArray 31)) w0.heap.size 31 (pL a) ∧
    Blk ((((w0.alloc (.cells (pL a).toArray 31)).alloc (.cells (pL b).toArray 31)).alloc (.cells (pL zeros).toArray 31)).alloc (.cells (pL zeros).toArray 31)) (w0.heap.size + 1) 31 (pL b) ∧
    Blk ((((w0.alloc (.cells (pL a).toArray 31)).alloc (.cells (pL b).toArray 31)).alloc (.cells (pL zeros).toArray 31)).alloc (.cells (pL zeros).toArray 31)) (w0.heap.size + 2) 31 (pL zeros) ∧
    Blk ((((w0.alloc (.cells (pL a).toArray 31)).alloc (.cells (pL b).toArray 31)).alloc (.cells (pL zeros).toArray 31)).alloc (.cells (pL zeros).toArray 31)) (w0.heap.size + 3) 31 (pL zeros) ∧
    w0.grownBy ((((w0.alloc (.cells (pL a).toArray 31)).alloc (.cells (pL b).toArray 31)).alloc (.cells (pL zeros).toArray 31)).alloc (.cells (pL zeros).toArray 31)) none :=
  ⟨(((new rfl a).alloc _).alloc _).alloc _, ((new (by simp) b).alloc _).alloc _, (new (by simp) zeros).alloc _, new (by simp) zeros, gb_alloc (gb_alloc (gb_alloc (gb_alloc (gb_refl w0 none) _) _) _) _⟩
/-- a result that is a number -/
theorem res {fn : Func} {p : Tmp} (h : fn.results = #[.cell p 31]) (tmps : Array Value) (w : World) (g : Nat) (l : List Nat) (hp : tmps.getD p undef = .pointer (some ⟨g, 0, none⟩)) (hg : Blk w g 31 (pL l)) (hl : l.length = 16) :
    (results fn tmps).run Tryz.prog w = .ok (nV l) w :=
  results_cell_row h tmps w g 31 (pL l).toArray (0, 0) _ hp hg Tryz.underlying31 rfl (by rw [List.size_toArray, pL_len, hl]; exact info_N)
/-- a number that is answered -/
def Out (l : List Nat) (w : World) (e : Ending) (w' : World) : Prop := e = .returned (nV l) ∧ w.grownBy w' none
theorem getD_lt (l : List Nat) (hl : Whole l) (i : Nat) : l.getD i 0 < 65536 := of_whole hl i
end Nr
end Go.Proofs.YtcmnecnbcohaeaaGreatDoor

/- The document's field: Less, P. -/
namespace Go.Proofs.YtcmnecnbcohaeaaGreatDoor
open Go.RowKit Ns
namespace Nr
/-- what decides, from a part on downwards -/
theorem less_here {a b : List Nat} {i : Nat} (ha : Whole a) (hb : Whole b) (la : a.length = 16) (lb : b.length = 16) (hi : i < 16) (he : a.drop (i + 1) = b.drop (i + 1)) (hne : a.getD i 0 ≠ b.getD i 0) : decide (V a < V b) = decide (a.getD i 0 < b.getD i 0) := by
  rcases Nat.lt_or_ge (a.getD i 0) (b.getD i 0) with h | h
  · rw [decide_eq_true h, decide_eq_true (V_less a b i ha (by omega) (by omega) he h)]
  · have hlt : b.getD i 0 < a.getD i 0 := by omega
    have := V_less b a i hb (by omega) (by omega) he.symm hlt
    rw [decide_eq_false (p := V a < V b) (by omega), decide_eq_false (p := a.getD i 0 < b.getD i 0) (by omega)]
theorem drop_here {a b : List Nat} {i : Nat} (la : a.length = 16) (lb : b.length = 16) (hi : i < 16) (he : a.drop (i + 1) = b.drop (i + 1)) (h : a.getD i 0 = b.getD i 0) : a.drop i = b.drop i := by
  have e1 : a.getD i 0 = a[i] := by rw [List.getD_eq_getElem?_getD, List.getElem?_eq_getElem (by omega : i < a.length)]; rfl
  have e2 : b.getD i 0 = b[i] := by rw [List.getD_eq_getElem?_getD, List.getElem?_eq_getElem (by omega : i < b.length)]; rfl
  rw [e1, e2] at h
  rw [List.drop_eq_getElem_cons (l := a) (by omega), List.drop_eq_getElem_cons (l := b) (by omega), he, h]
set_option maxRecDepth 100000 in
set_option maxHeartbeats 2000000 in
theorem less_any (a b : List Nat) (w : World) (ha : Whole a) (hb : Whole b) (la : a.length = 16) (lb : b.length = 16) :
    Calls Tryz.prog 27 #[nV a, nV b] w fun e w' => e = .returned (.bool (decide (V a < V b))) ∧ w.grownBy w' none := by
  have wa := fun i => of_whole ha i
  have wb := fun i => of_whole hb i
  have HW := Lib.hid (And.intro ha hb); clear ha hb
  unfold nV
  go_enter Tryz.func27, Tryz.ntmps27
  go_upto_region 1 with (fail)
  have bA := (new (w := w) rfl a).alloc (.cells (pL b).toArray 31)
  have bB := new (w := w.alloc (.cells (pL a).toArray 31)) (B := w.heap.size + 1) (by simp) b
  have g2 := gb_alloc (gb_alloc (gb_refl w none) (.cells (pL a).toArray 31)) (.cells (pL b).toArray 31)
  revert bA bB g2
  generalize (w.alloc (.cells (pL a).toArray 31)).alloc (.cells (pL b).toArray 31) = w2
  intro bA bB g2
  have H2 := Lib.hid (And.intro g2 (And.intro bA bB)); clear g2 bA bB
  go_wp2
  go_loopw [5] (fun i wr => ∃ (q : Int) (k : Nat), q + 1 = k ∧ k ≤ 16 ∧ i = .int .i64 q ∧ a.drop k = b.drop k ∧ w2.grownBy wr none) (fun i _ => (intOf i + 1).toNat)
  case atStart => exact ⟨15, 16, by decide, by omega, rfl, by rw [List.drop_eq_nil_of_le (by omega), List.drop_eq_nil_of_le (by omega)], gb_refl _ _⟩
  case round =>
    obtain ⟨q, k, hq, hk, rfl, he, hg⟩ := hrel
    by_cases h0 : 0 ≤ q
    · obtain ⟨i, rfl⟩ := Int.eq_ofNat_of_zero_le h0
      obtain rfl : k = i + 1 := by omega
      have hi : i < 16 := by omega
      have c0 := (gb_cell hg (p := ⟨w.heap.size, i, none⟩) (block_lt_of_cell (cell H2.out.2.1 i (by omega))) (by simp)).trans (cell H2.out.2.1 i (by omega))
      have c1 := (gb_cell hg (p := ⟨w.heap.size + 1, i, none⟩) (block_lt_of_cell (cell H2.out.2.2 i (by omega))) (by simp)).trans (cell H2.out.2.2 i (by omega))
      have v0 := wa i
      have v1 := wb i
      have hd : a.getD i 0 ≠ b.getD i 0 → decide (V a < V b) = decide (a.getD i 0 < b.getD i 0) := less_here HW.out.1 HW.out.2 la lb hi he
      have hs : a.getD i 0 = b.getD i 0 → a.drop i = b.drop i := drop_here la lb hi he
      generalize a.getD i 0 = x at *
      generalize b.getD i 0 = y at *
      have i0 : (i : Int) < 16 := by omega
      have HG := Lib.hid (And.intro hg (And.intro hd hs)); clear hg hd hs he
      rcases Nat.lt_trichotomy x y with h | h | h
      · have i1 : (x : Int) < (y : Int) := by omega
        go_wp2
        go_quiet (fail)
        go_wp2
        go_quiet (fail)
        go_wp2
        go_ret
        refine ⟨?_, gb_trans H2.out.1 (gb_drewN (gb_drewN HG.out.1 _) _)⟩
        rw [HG.out.2.1 (by omega)]
        simp [h]
      · subst h
        go_wp2
        go_quiet (fail)
        go_wp2
        exact ⟨⟨(i : Int) - 1, i, by omega, by omega, rfl, HG.out.2.2 trivial, gb_drewN HG.out.1 _⟩, by simp [intOf]⟩
      · have i1 : (y : Int) < (x : Int) := by omega
        go_wp2
        go_quiet (fail)
        go_wp2
        go_quiet (fail)
        go_wp2
        go_ret
        refine ⟨?_, gb_trans H2.out.1 (gb_drewN (gb_drewN HG.out.1 _) _)⟩
        rw [HG.out.2.1 (by omega)]
        simp
        first | done | omega
    · obtain rfl : k = 0 := by omega
      obtain rfl : q = -1 := by omega
      have e : a = b := by simpa using he
      subst e
      go_wp2
      go_ret
      exact ⟨by simp, gb_trans H2.out.1 hg⟩
/-- the first parts are set, the others are none -/
def fillF (k : Nat) : List Nat := List.replicate k 65535 ++ List.replicate (16 - k) 0
theorem fillF_set (k : Nat) (h : k < 16) : (fillF k).set k 65535 = fillF (k + 1) := by
  have : ∀ j : Fin 16, (fillF j.1).set j.1 65535 = fillF (j.1 + 1) := by decide
  exact this ⟨k, h⟩
theorem fillF_len (k : Nat) (h : k ≤ 16) : (fillF k).length = 16 := by simp [fillF]; omega
theorem Pp_len : Pp.length = 16 := rfl
set_option maxRecDepth 100000 in
set_option maxHeartbeats 2000000 in
theorem p_any (w : World) : Calls Tryz.prog 28 #[] w (Out Pp w) := by
  go_enter Tryz.func28, Tryz.ntmps28
  go_upto_region 2 with (fail)
  show Code.wp _ _ _ _ ((w.alloc (.cells (pL zeros).toArray 31)).alloc (.cells (pL zeros).toArray 31))
  have bA := (new (w := w) rfl zeros).alloc (.cells (pL zeros).toArray 31)
  have bB := new (w := w.alloc (.cells (pL zeros).toArray 31)) (B := w.heap.size + 1) (by simp) zeros
  have g2 := gb_alloc (gb_alloc (gb_refl w none) (.cells (pL zeros).toArray 31)) (.cells (pL zeros).toArray 31)
  revert bA bB g2
  generalize (w.alloc (.cells (pL zeros).toArray 31)).alloc (.cells (pL zeros).toArray 31) = w2
  intro bA bB g2
  have H2 := Lib.hid (And.intro g2 (And.intro bA bB)); clear g2 bA bB
  go_wp2
  go_loopw [2] (fun i wr => ∃ k : Nat, k ≤ 16 ∧ i = .int .i64 k ∧ w.grownBy wr none ∧ Blk wr w.heap.size 31 (pL zeros) ∧ Blk wr (w.heap.size + 1) 31 (pL (fillF k))) (fun i _ => 16 - (intOf i).toNat)
  case atStart => exact ⟨0, by omega, rfl, H2.out.1, H2.out.2.1, H2.out.2.2⟩
  case round =>
    obtain ⟨k, hk, rfl, hg, hz, hb⟩ := hrel
    by_cases hlt : k < 16
    · have i0 : (k : Int) < 16 := by omega
      have c0 := cell hb k (by rw [fillF_len k hk]; exact hlt)
      have f0 := hb.free k
      have hs := set hb k 65535
      rw [fillF_set k hlt] at hs
      have HI := Lib.hid (And.intro (gb_set_new hg (p := ⟨w.heap.size + 1, k, none⟩) (Nat.le_succ _) (.int .u64 65535)) (And.intro (hz.other (a := ⟨w.heap.size + 1, k, none⟩) (by show w.heap.size + 1 ≠ w.heap.size; omega) (.int .u64 65535)) hs)); clear hg hz hb hs
      go_wp2
      go_roundw
      case rel => exact ⟨k + 1, by omega, by go_num, HI.out.1, HI.out.2.1, HI.out.2.2⟩
      case measure => simp [intOf]; omega
    · obtain rfl : k = 16 := by omega
      have c0 := cell hb 0 (by decide)
      have f0 := hb.free 0
      have f15 := hb.free 15
      have c15 := cell hb 15 (by decide)
      have hs := set (set hb 0 65517) 15 32767
      rw [show ((fillF 16).set 0 65517).set 15 32767 = Pp by decide] at hs
      have hz2 := (hz.other (a := ⟨w.heap.size + 1, 0, none⟩) (by show w.heap.size + 1 ≠ w.heap.size; omega) (.int .u64 65517)).other (a := ⟨w.heap.size + 1, 15, none⟩) (by show w.heap.size + 1 ≠ w.heap.size; omega) (.int .u64 32767)
      have hg2 := gb_set_new (gb_set_new hg (p := ⟨w.heap.size + 1, 0, none⟩) (Nat.le_succ _) (.int .u64 65517)) (p := ⟨w.heap.size + 1, 15, none⟩) (Nat.le_succ _) (.int .u64 32767)
      have HI := Lib.hid (And.intro hg2 (And.intro hz2 hs)); clear hg hz hb hs hz2 hg2
      go_upto_region 8 with (fail)
      obtain ⟨rN, hrN⟩ : ∃ r : List Nat, r = Pp := ⟨_, rfl⟩
      have hrl : rN.length = 16 := by rw [hrN]; exact Pp_len
      have hrb := HI.out.2.2
      rw [← hrN] at hrb
      have HRN := Lib.hid hrN; clear hrN
      refine wp_region_lit ?_
      refine Fg.wpl_value (v := nV rN) (w' := _) rfl (ld rfl rfl hrb hrl rfl rfl) ?_
      simp only [Act.put, List.setIfInBounds_toArray, List.set_cons_succ, List.set_cons_zero]
      refine Fg.wpl_skip rfl rfl (st (l := rN) rfl rfl rfl (HI.out.2.1) (by rw [pL_len]; rfl) (hrl) rfl) ?_
      refine wpList_nil ?_
      have hR := stored (l := rN) (HI.out.2.1) (by rw [pL_len]; rfl) (hrl)
      have gR := gb_setCells_new (cs := pL rN) (HI.out.1) (B := w.heap.size) (by omega) 0
      revert gR; revert hR
      generalize World.setCells _ _ _ _ = wR
      intro hR gR
      go_wp2_with fail
      exact bodyPost_ret (v := nV rN) (res Tryz.results28 _ _ (w.heap.size) rN rfl hR (hrl)) rfl ⟨by rw [HRN.out], gR⟩
end Nr
end Go.Proofs.YtcmnecnbcohaeaaGreatDoor

/- The document's field: lessP. -/
namespace Go.Proofs.YtcmnecnbcohaeaaGreatDoor
open Go.RowKit Ns
namespace Nr
theorem and_part (x : Nat) (h : x < 18446744073709551616) : bits .and .u64 (x : Int) 65535 = ((x % 65536 : Nat) : Int) := by
  have e : (65535 : Int) = ((65535 : Nat) : Int) := rfl
  rw [e, u64_and_nat _ _ (by omega) (by decide), show (65535 : Nat) = 2 ^ 16 - 1 from rfl, Nat.and_two_pow_sub_one_eq_mod]
theorem and_one64 (x : Nat) (h : x < 18446744073709551616) : bits .and .u64 (x : Int) 1 = ((x % 2 : Nat) : Int) := by
  have e : (1 : Int) = ((1 : Nat) : Int) := rfl
  rw [e, u64_and_nat _ _ (by omega) (by decide), show (1 : Nat) = 2 ^ 1 - 1 from rfl, Nat.and_two_pow_sub_one_eq_mod]
/-- amid a difference: the first i parts are told -/
structure Dif (t p l : List Nat) (i b : Nat) : Prop where
  len : l.length = 16
  whole : Whole l
  rest : ∀ j, i ≤ j → l.getD j 0 = t.getD j 0
  bor : b ≤ 1
  eq : V (l.take i) + V (p.take i) = V (t.take i) + 65536 ^ i * b
theorem Dif.start (t p : List Nat) (ht : Whole t) (lt : t.length = 16) : Dif t p t 0 0 := ⟨lt, ht, fun _ _ => rfl, by omega, by simp [V]⟩
theorem take_set (l : List Nat) (i x : Nat) (h : i < l.length) : (l.set i x).take (i + 1) = l.take i ++ [x] := by
  rw [List.take_succ_eq_append_getElem (by rw [List.length_set]; exact h), List.getElem_set_self, List.take_set_of_le (Nat.le_refl _)]
theorem V_take_set (l : List Nat) (i x : Nat) (h : i < l.length) : V ((l.set i x).take (i + 1)) = V (l.take i) + 65536 ^ i * x := by
  rw [take_set l i x h, V_append, List.length_take, Nat.min_eq_left (by omega)]
  simp [V]
/-- the next part -/
theorem Dif.next {t p l : List Nat} {i b : Nat} (h : Dif t p l i b) (hi : i < 16) (hp : Whole p) (ht : Whole t) (lp : p.length = 16) (lt : t.length = 16) :
    Dif t p (l.set i ((l.getD i 0 + 65536 - p.getD i 0 - b) % 65536)) (i + 1) (1 - (l.getD i 0 + 65536 - p.getD i 0 - b) / 65536) := by
  have ha := of_whole ht i
  rw [← h.rest i (Nat.le_refl _)] at ha
  obtain ⟨h1, h2, h3, h4⟩ := sub_part (l.getD i 0) (p.getD i 0) b ha (of_whole hp i) h.bor
  have hl := h.len
  refine ⟨by rw [List.length_set]; exact hl, whole_of fun j hj => ?_, fun j hj => ?_, h3, ?_⟩
  · rw [set_getD _ _ _ _ (by omega)]
    split
    · exact h2
    · exact of_whole h.whole j
  · rw [set_getD _ _ _ _ (by omega), if_neg (by omega)]
    exact h.rest j (by omega)
  · rw [V_take_set l i _ (by omega), V_take_succ p i (by omega), V_take_succ t i (by omega), ← h.rest i (Nat.le_refl _)]
    exact sub_next h.eq h4
theorem Dif.done {t p l : List Nat} {b : Nat} (h : Dif t p l 16 b) (lp : p.length = 16) (lt : t.length = 16) (hge : V p ≤ V t) : l = parts 16 (V t - V p) := by
  have he := h.eq
  rw [List.take_of_length_le (Nat.le_of_eq h.len), List.take_of_length_le (Nat.le_of_eq lp), List.take_of_length_le (Nat.le_of_eq lt)] at he
  have hlt := V_lt l h.whole
  rw [h.len] at hlt
  rw [← (sub_end hlt he hge).1, ← h.len]
  exact (parts_V l h.whole).symm
theorem parts16_len (v : Nat) : (parts 16 v).length = 16 := parts_len 16 v
set_option maxRecDepth 100000 in
set_option maxHeartbeats 4000000 in
theorem lessP_any (t : List Nat) (w : World) (ht : Whole t) (lt : t.length = 16) (hge : V Pp ≤ V t) :
    Calls Tryz.prog 85 #[nV t] w (Out (parts 16 (V t - V Pp)) w) := by
  unfold nV
  go_enter Tryz.func85, Tryz.ntmps85
  go_upto_region 1 with (fail)
  show Code.wp _ _ _ _ ((w.alloc (.cells (pL t).toArray 31)).alloc (.cells (pL zeros).toArray 31))
  have bA := (new (w := w) rfl t).alloc (.cells (pL zeros).toArray 31)
  have bB := new (w := w.alloc (.cells (pL t).toArray 31)) (B := w.heap.size + 1) (by simp) zeros
  have g2 := gb_alloc (gb_alloc (gb_refl w none) (.cells (pL t).toArray 31)) (.cells (pL zeros).toArray 31)
  revert bA bB g2
  generalize (w.alloc (.cells (pL t).toArray 31)).alloc (.cells (pL zeros).toArray 31) = w2
  intro bA bB g2
  refine wp_region_lit ?_
  refine Fg.wpl_call rfl (Fg.run_call (vs := #[]) rfl rfl (by simp only [List.map_toArray, List.map_nil]) (Fg.run_enter Tryz.func28 (by kernel_rfl) (by kernel_rfl))) ?_
  refine (p_any w2).mono ?_
  rintro e w3 ⟨rfl, gw3⟩
  refine ⟨_, rfl, ?_⟩
  simp only [Act.put, List.setIfInBounds_toArray, List.set_cons_succ, List.set_cons_zero]
  refine Fg.wpl_value (v := .pointer (some ⟨w3.heap.size, 0, none⟩)) (w' := w3.alloc (.cells (pL zeros).toArray 31)) rfl (by go_simp; rfl) ?_
  simp only [Act.put, List.setIfInBounds_toArray, List.set_cons_succ, List.set_cons_zero]
  refine Fg.wpl_skip rfl rfl (st (l := Pp) rfl rfl rfl (new (w := w3) rfl zeros) rfl (Pp_len) rfl) ?_
  refine wpList_nil ?_
  obtain ⟨hw4, gw4, sw4⟩ := var w3 (Pp) (Pp_len)
  revert hw4 gw4 sw4
  generalize World.setCells _ _ _ _ = w4
  intro hw4 gw4 sw4
  have H4 := Lib.hid (And.intro (gb_trans (gb_trans g2 gw3) gw4) (And.intro ((bA.grown gw3 (by simp)).grown gw4 (by simp)) (And.intro ((bB.grown gw3 (by simp)).grown gw4 (by simp)) hw4)))
  have zA := bA.lt
  have zB := bB.lt
  have z3 := gw3.size
  have z2 := g2.size
  clear bA bB g2 gw3 gw4 hw4
  have hge' := Lib.hid hge; clear hge
  obtain ⟨Q, hQ⟩ : ∃ Q, Q = w3.heap.size := ⟨_, rfl⟩
  rw [← hQ] at H4 sw4 z3 ⊢
  clear hQ
  go_wp2
  go_loopw [4, 5] (fun bv i wr => ∃ (k b : Nat) (l : List Nat), k ≤ 16 ∧ i = .int .i64 k ∧ bv = .int .u64 b ∧ Dif t Pp l k b ∧ w.grownBy wr none ∧ Blk wr w.heap.size 31 (pL l) ∧ Blk wr (w.heap.size + 1) 31 (pL zeros) ∧ Blk wr Q 31 (pL Pp)) (fun _ i _ => 16 - (intOf i).toNat)
  case atStart => exact ⟨0, 0, t, by omega, rfl, rfl, Dif.start t Pp ht lt, H4.out.1, H4.out.2.1, H4.out.2.2.1, H4.out.2.2.2⟩
  case round =>
    obtain ⟨k, b, l, hk, rfl, rfl, hd, hg, hb, hz, hp⟩ := hrel
    by_cases hlt : k < 16
    · have i0 : (k : Int) < 16 := by omega
      have ll := hd.len
      have c0 := cell hb k (by omega)
      have c1 := cell hp k (by rw [Pp_len]; exact hlt)
      have vt := of_whole hd.whole k
      have vp := of_whole Pp_whole k
      have vb := hd.bor
      have hn := hd.next hlt Pp_whole ht Pp_len lt
      obtain ⟨x, hx⟩ : ∃ x, x = l.getD k 0 + 65536 - Pp.getD k 0 - b := ⟨_, rfl⟩
      rw [← hx] at hn
      have hbd := hb.grown (gb_drew (gb_refl wr none)) (by simp)
      have f0 := hbd.free k
      have hbit := and_part x (by omega)
      have ho : x % 65536 < 65536 := by omega
      have hc : x / 65536 ≤ 1 := by omega
      have hs := set hbd k (x % 65536)
      have hgs := gb_set_new (gb_drew hg) (p := ⟨w.heap.size, k, none⟩) (Nat.le_refl _) (.int .u64 ((x % 65536 : Nat) : Int))
      have hzs := (hz.grown (gb_drew (gb_refl wr none)) (by simp)).other (a := ⟨w.heap.size, k, none⟩) (by show w.heap.size ≠ w.heap.size + 1; omega) (.int .u64 ((x % 65536 : Nat) : Int))
      have hps := (hp.grown (gb_drew (gb_refl wr none)) (by simp)).other (a := ⟨w.heap.size, k, none⟩) (by show w.heap.size ≠ Q; omega) (.int .u64 ((x % 65536 : Nat) : Int))
      rw [show ((x % 65536 : Nat) : Int) = (x : Int) % 65536 by omega] at hs hgs hzs hps
      have HI := Lib.hid (And.intro hn (And.intro hgs (And.intro hs (And.intro hzs hps)))); clear hn hs hgs hzs hps hd hg hb hz hp hbd
      generalize l.getD k 0 = tk at *
      generalize Pp.getD k 0 = pk at *
      have e1 : (tk : Int) + 65536 - (pk : Int) - (b : Int) = (x : Int) := by omega
      have HX := Lib.hid hx; clear hx
      go_wp2
      go_region
      go_wp2
      exact ⟨⟨k + 1, 1 - x / 65536, _, by omega, by congr 1, by congr 1; omega, HI.out.1, HI.out.2.1, HI.out.2.2.1, HI.out.2.2.2.1, HI.out.2.2.2.2⟩, by simp [intOf]; omega⟩
    · obtain rfl : k = 16 := by omega
      have he := hd.done Pp_len lt hge'.out
      rw [he] at hb
      go_upto_region 9 with (fail)
      obtain ⟨rN, hrN⟩ : ∃ r : List Nat, r = parts 16 (V t - V Pp) := ⟨_, rfl⟩
      have hrl : rN.length = 16 := by rw [hrN]; exact parts16_len _
      have hrb := hb
      rw [← hrN] at hrb
      have HRN := Lib.hid hrN; clear hrN
      refine wp_region_lit ?_
      refine Fg.wpl_value (v := nV rN) (w' := _) rfl (ld rfl rfl hrb hrl rfl rfl) ?_
      simp only [Act.put, List.setIfInBounds_toArray, List.set_cons_succ, List.set_cons_zero]
      refine Fg.wpl_skip rfl rfl (st (l := rN) rfl rfl rfl (hz) (by rw [pL_len]; rfl) (hrl) rfl) ?_
      refine wpList_nil ?_
      have hR := stored (l := rN) (hz) (by rw [pL_len]; rfl) (hrl)
      have gR := gb_setCells_new (cs := pL rN) (hg) (B := w.heap.size + 1) (by omega) 0
      revert gR; revert hR
      generalize World.setCells _ _ _ _ = wR
      intro hR gR
      go_wp2_with fail
      exact bodyPost_ret (v := nV rN) (res Tryz.results85 _ _ (w.heap.size + 1) rN rfl hR (hrl)) rfl ⟨by rw [HRN.out], gR⟩
end Nr
end Go.Proofs.YtcmnecnbcohaeaaGreatDoor

/- Rows of bytes, in a row. -/
namespace Go.Proofs.YtcmnecnbcohaeaaGreatDoor
open Go.RowKit Ow

/-- rows of bytes, in a row, all below block B -/
structure RowsAt (w : World) (B : Nat) (a : Option Addr) (L : List (List Nat)) : Prop where
  lim : B ≤ w.heap.size
  cells : L.length = 0 ∨ ∃ pb po, a = some ⟨pb, po, none⟩ ∧ pb < B ∧ ∀ i, i < L.length → ∃ ai ci, w.cell? ⟨pb, po + i, none⟩ = some (.slice ai (L.getD i []).length ci) ∧ BytesAt w B ai ci (L.getD i [])
theorem RowsAt.kept {w w' : World} {B : Nat} {a : Option Addr} {L : List (List Nat)} (h : RowsAt w B a L) {row : Option Nat} (hg : w.grownBy w' row) (hr : ∀ r, row = some r → B ≤ r) : RowsAt w' B a L := by
  refine ⟨Nat.le_trans h.lim hg.size, ?_⟩
  rcases h.cells with h0 | ⟨pb, po, ha, hlt, hc⟩
  · exact Or.inl h0
  · refine Or.inr ⟨pb, po, ha, hlt, fun i hi => ?_⟩
    obtain ⟨ai, ci, h1, h2⟩ := hc i hi
    exact ⟨ai, ci, by rw [gb_cell hg (p := ⟨pb, po + i, none⟩) (Nat.lt_of_lt_of_le hlt h.lim) (fun e => by have := hr _ e.symm; simp at this; omega)]; exact h1, h2.kept hg hr⟩
theorem RowsAt.stay {w w' : World} {B : Nat} {a : Option Addr} {L : List (List Nat)} (h : RowsAt w B a L) (hg : w.grownBy w' none) : RowsAt w' B a L := h.kept hg (fun r e => by cases e)
theorem RowsAt.at {w : World} {B : Nat} {a : Option Addr} {L : List (List Nat)} (h : RowsAt w B a L) {i : Nat} (hi : i < L.length) : ∃ pb po ai ci, a = some ⟨pb, po, none⟩ ∧ pb < B ∧ w.cell? ⟨pb, po + i, none⟩ = some (.slice ai (L.getD i []).length ci) ∧ BytesAt w B ai ci (L.getD i []) := by
  obtain ⟨pb, po, h1, h2, h3⟩ := h.cells.resolve_left (by omega)
  obtain ⟨ai, ci, h4, h5⟩ := h3 i hi
  exact ⟨pb, po, ai, ci, h1, h2, h4, h5⟩
end Go.Proofs.YtcmnecnbcohaeaaGreatDoor

/- Regions that draw their order, in short: memory only grows; slices of bytes, rows of them; a tail in text order. -/
namespace Go.Proofs.YtcmnecnbcohaeaaGreatDoor
open Go.RowKit Ow
namespace Fg
/-- a slice of the bytes l -/
def It.by (l : List Nat) : It := ⟨fun v w => ∃ a cap B, v = .slice a l.length cap ∧ BytesAt w B a cap l, fun _ _ _ ⟨a, cap, B, e, h⟩ hg => ⟨a, cap, B, e, h.stay hg⟩⟩
def It.rws (L : List (List Nat)) : It := ⟨fun v w => ∃ a cap B, v = .slice a L.length cap ∧ RowsAt w B a L, fun _ _ _ ⟨a, cap, B, e, h⟩ hg => ⟨a, cap, B, e, h.stay hg⟩⟩
section
variable {P : Program} {ops : Array Oper} {Q : Exit → Act → World → Prop} {L : List It} {W0 : World} {a0 : Act} {ps : List Nat}
abbrev AtT (k : Nat) (ps : List Nat) (L : List It) (W0 : World) (a0 : Act) (ops : Array Oper) (o : Oper) (a : Act) (w : World) : Prop := AtP k ps L (fun w => W0.grownBy w none) a0 ops o a w
abbrev StT (k : Nat) (ps : List Nat) (P : Program) (Q : Exit → Act → World → Prop) (L : List It) (W0 : World) (a0 : Act) (ops : Array Oper) (i : Nat) (o : Oper) : Prop := (∃ d, o.dst = some d) ∧ StepP k ps P Q L (fun w => W0.grownBy w none) a0 ops i o
theorem vT {k i : Nat} {o : Oper} {d : Nat} (hd : o.dst = some d) (hps : (ps.all fun s => s != d) = true)
    (h : ∀ a w, AtT k ps L W0 a0 ops o a w → ∃ v w', Wants ops o a ∧ (execOp a.eval o).run P w = .ok (.value v) w' ∧ w.grownBy w' none ∧ its L d v w') : StT k ps P Q L W0 a0 ops i o :=
  ⟨⟨d, hd⟩, valueP (fun _ _ h k => gb_trans h k) hd hps fun a w hF => by
    obtain ⟨v, w', hw, hr, hg, hG⟩ := h a w hF
    exact ⟨hw, v, w', hr, hg, hG⟩⟩
theorem cT {k i : Nat} {o : Oper} {d : Nat} (hd : o.dst = some d) (hps : (ps.all fun s => s != d) = true)
    (h : ∀ a w, AtT k ps L W0 a0 ops o a w → ∃ f args, Wants ops o a ∧ (execOp a.eval o).run P w = .ok (.enter f args) w ∧ Calls P f args w fun e w' => ∃ v, e = .returned v ∧ w.grownBy w' none ∧ its L d v w') : StT k ps P Q L W0 a0 ops i o :=
  ⟨⟨d, hd⟩, callP (fun _ _ h k => gb_trans h k) hd hps fun a w hF => by
    obtain ⟨f, args, hw, hr, hc⟩ := h a w hF
    exact ⟨hw, f, args, hr, hc⟩⟩
/-- a new box -/
theorem aT {k i : Nat} {o : Oper} {d : Nat} (T : TypeId) (V : List Value) (hd : o.dst = some d) (hlt : d < a0.tmps.size) (hi : L.getD d .any = .fresh T V W0.heap.size)
    (h : ∀ a w, AtT k ps L W0 a0 ops o a w → Wants ops o a ∧ (execOp a.eval o).run P w = .ok (.value (.pointer (some ⟨w.heap.size, 0, none⟩))) (w.alloc (.cells V.toArray T))) : StT k ps P Q L W0 a0 ops i o :=
  ⟨⟨d, hd⟩, allocP (fun _ _ h k => gb_trans h k) hd hlt fun a w hF => by
    obtain ⟨hw, hr⟩ := h a w hF
    refine ⟨hw, _, hr, World.grownBy_alloc _ _ _, by simp, ?_⟩
    unfold its
    rw [hi]
    exact ⟨w.heap.size, rfl, hF.base.size, Blk.new w V T⟩⟩
theorem sT {k i : Nat} {o : Oper} {d : Nat} (hd : o.dst = some d) (hps : (ps.all fun s => s != d) = true) (hG : ∀ w, its L d undef w)
    (h : ∀ a w, AtT k ps L W0 a0 ops o a w → Region.wanted o (yielded ops a.tmps) = false) : StT k ps P Q L W0 a0 ops i o :=
  ⟨⟨d, hd⟩, skippedP hd hps hG h⟩
theorem region_t {id : Nat} {w : World} (ps : List Nat) (L : List It) (W0 : World) (k : Nat) (hB0 : W0.grownBy w none) (hm : P.follows .mixedOrders = true) (ht : topo ops = true) (ho : once (ops.extract 0 k) a0.tmps.size = true) (htl : tailOk ops k = true) (hk : k ≤ ops.size)
    (hu : (ps.all fun s => match a0.tmps.getD s undef with | .pointer _ => false | _ => true) = true)
    (steps : StepsS k ps P Q L (fun w => W0.grownBy w none) a0 ops 0 (ops.toList.take k))
    (fin : ∀ a w', W0.grownBy w' none → a.tmps.size = a0.tmps.size → a.defers = a0.defers → (∀ d, isDstTo ops k d = false → a.tmps.getD d undef = a0.tmps.getD d undef) →
      (∀ d, isDstTo ops k d = true → its L d (a.tmps.getD d undef) w') → PtrsApart ps a w' → wpList P ops Q (ops.toList.drop k) a w') : (Code.region id ops true).wp P Q a0 w :=
  wp_region_tail L (fun w => W0.grownBy w none) k (gb_drew hB0) hm ht ho htl hk (ptrs_undef hu) steps fin
end
end Fg
end Go.Proofs.YtcmnecnbcohaeaaGreatDoor

/- The document's field: whole. -/
namespace Go.Proofs.YtcmnecnbcohaeaaGreatDoor
open Go.RowKit Ns
namespace Nr
/-- behind k passes over parts whose value is v -/
structure Pass (v k : Nat) (l : List Nat) : Prop where
  len : l.length = 16
  val : V l = it k v
  low : ∀ j, l.getD j 0 < 2 ^ 60
  whole : 4 ≤ k → Whole l
theorem Pass.start {l : List Nat} (hl : l.length = 16) (h : ∀ j, l.getD j 0 < 2 ^ 60) : Pass (V l) 0 l := ⟨hl, rfl, h, fun h => by omega⟩
theorem V_317 {l : List Nat} (hl : l.length = 16) (h : ∀ j, l.getD j 0 < 2 ^ 60) : V l < 2 ^ 317 := by
  have := V_big l (fun d hd => by
    obtain ⟨i, hi, rfl⟩ := List.getElem_of_mem hd
    have := h i
    rwa [List.getD_eq_getElem?_getD, List.getElem?_eq_getElem hi] at this)
  rw [hl] at this
  omega
/-- what a pass of carries leaves -/
def Done (l0 l : List Nat) (i : Nat) : Prop := (i ≤ 15 → Amid l0 l i) ∧ (i = 16 → Parts (Ns.next (V l0)) l ∧ (V l0 < 65536 ^ 16 → Whole l))
theorem Pass.next {v k : Nat} {l0 l : List Nat} (hv : v < 2 ^ 317) (h : Pass v k l0) (hd : Done l0 l 16) : Pass v (k + 1) l := by
  obtain ⟨hp, hw⟩ := hd.2 rfl
  refine ⟨hp.len, by rw [hp.val, h.val]; rfl, fun j => ?_, fun hk => hw ?_⟩
  · rcases Nat.eq_zero_or_pos j with rfl | hj
    · exact hp.low
    · have := hp.high j hj; omega
  · rw [h.val]
    obtain ⟨m, rfl⟩ : ∃ m, k = m + 3 := ⟨k - 3, by omega⟩
    exact it_small m v hv
theorem Done.len {l0 l : List Nat} {i : Nat} (h : Done l0 l i) (hi : i ≤ 16) : l.length = 16 := by
  rcases Nat.lt_or_ge i 16 with h1 | h1
  · exact (h.1 (by omega)).len
  · exact (h.2 (by omega)).1.len
theorem less_mod {v : Nat} (h : V Pp ≤ v) : (v - V Pp) % (2 ^ 255 - 19) = v % (2 ^ 255 - 19) := by
  rw [Pp_V] at h ⊢
  exact (Nat.mod_eq_sub_mod h).symm
theorem less_p {v : Nat} (h : V Pp ≤ v) : v - V Pp < v := by
  have := Pp_V
  omega
def wordOf : Option Value → Nat
  | some (.int _ n) => n.toNat
  | _ => 0
/-- the value that a block holds -/
def valAt (w : World) (B : Nat) : Nat := V ((List.range 16).map fun i => wordOf (w.cell? ⟨B, i, none⟩))
theorem valAt_is {w : World} {B : Nat} {l : List Nat} (h : Blk w B 31 (pL l)) (hl : l.length = 16) : valAt w B = V l := by
  unfold valAt
  congr 1
  apply List.ext_getElem
  · simp [hl]
  · intro i h1 h2
    simp only [List.getElem_map, List.getElem_range]
    rw [cell h i h2]
    show ((l.getD i 0 : Nat) : Int).toNat = _
    rw [Int.toNat_natCast, List.getD_eq_getElem?_getD, List.getElem?_eq_getElem h2]
    rfl
set_option maxRecDepth 100000 in
set_option maxHeartbeats 8000000 in
theorem whole_any (t : List Nat) (w0 : World) (lt : t.length = 16) (ht : ∀ j, t.getD j 0 < 2 ^ 60) :
    Calls Tryz.prog 52 #[nV t] w0 (Out (num (V t)) w0) := by
  have hv := V_317 lt ht
  have hP0 := Pass.start lt ht
  clear ht
  unfold nV
  go_enter Tryz.func52, Tryz.ntmps52
  go_upto_region 1 with (fail)
  show Code.wp _ _ _ _ ((w0.alloc (.cells (pL t).toArray 31)).alloc (.cells (pL zeros).toArray 31))
  have bA := (new (w := w0) rfl t).alloc (.cells (pL zeros).toArray 31)
  have bB := new (w := w0.alloc (.cells (pL t).toArray 31)) (B := w0.heap.size + 1) (by simp) zeros
  have g2 := gb_alloc (gb_alloc (gb_refl w0 none) (.cells (pL t).toArray 31)) (.cells (pL zeros).toArray 31)
  revert bA bB g2
  generalize (w0.alloc (.cells (pL t).toArray 31)).alloc (.cells (pL zeros).toArray 31) = w2
  intro bA bB g2
  obtain ⟨v, hve⟩ : ∃ v, v = V t := ⟨_, rfl⟩
  rw [← hve] at hv hP0 ⊢
  have HV := Lib.hid (And.intro hv (And.intro hP0 (And.intro g2 (And.intro bA bB)))); clear hv hP0 g2 bA bB
  have HVe := Lib.hid hve; clear hve
  have hlen : (pL t).length = 16 := by rw [pL_len, lt]
  clear lt
  go_wp2
  go_loopw [3] (fun i wr => ∃ (k : Nat) (l : List Nat), k ≤ 6 ∧ i = .int .i64 k ∧ Pass v k l ∧ w0.grownBy wr none ∧ Blk wr w0.heap.size 31 (pL l) ∧ Blk wr (w0.heap.size + 1) 31 (pL zeros)) (fun i _ => 6 - (intOf i).toNat)
  case atStart => exact ⟨0, t, by omega, rfl, HV.out.2.1, HV.out.2.2.1, HV.out.2.2.2.1, HV.out.2.2.2.2⟩
  case round =>
    obtain ⟨k, l0, hk, rfl, hp, hg, hb, hz⟩ := hrel
    by_cases hlt : k < 6
    · have i0 : (k : Int) < 6 := by omega
      have HI := Lib.hid (And.intro hp (And.intro hg (And.intro hb hz))); clear hp hg hb hz
      go_wp2
      go_loopw [4] (fun iv wr => ∃ (i : Nat) (l : List Nat), i ≤ 16 ∧ iv = .int .i64 i ∧ Done l0 l i ∧ w0.grownBy wr none ∧ Blk wr w0.heap.size 31 (pL l) ∧ Blk wr (w0.heap.size + 1) 31 (pL zeros)) (fun iv _ => 16 - (intOf iv).toNat)
      case atStart => exact ⟨0, l0, by omega, rfl, ⟨fun _ => Amid.start l0 HI.out.1.len, fun h => by omega⟩, HI.out.2.1, HI.out.2.2.1, HI.out.2.2.2⟩
      case round =>
        obtain ⟨i, l, hi, rfl, hd, hg, hb, hz⟩ := hrel
        by_cases h16 : i < 16
        · have i1 : (i : Int) < 16 := by omega
          have ha := hd.1 (by omega)
          have hl := ha.len
          have c0 := cell hb i (by omega)
          have f0 := hb.free i
          have vh := ha.here
          have vl := HI.out.1.low i
          obtain ⟨x, hx⟩ : ∃ x, x = l.getD i 0 := ⟨_, rfl⟩
          have hbit := and_part x (by omega)
          by_cases h15 : i < 15
          · have i2 : (i : Int) < 15 := by omega
            have c1 := cell hb (i + 1) (by omega)
            have f1 := (set hb i (x % 65536)).free (i + 1)
            have vn := HI.out.1.low (i + 1)
            have hr := ha.rest (i + 1) (by omega)
            have hn := ha.next h15 vl
            have hs := set (set hb i (x % 65536)) (i + 1) (l.getD (i + 1) 0 + x / 65536)
            have hgs := gb_set_new (gb_set_new hg (p := ⟨w0.heap.size, i, none⟩) (Nat.le_refl _) (.int .u64 ((x % 65536 : Nat) : Int))) (p := ⟨w0.heap.size, i + 1, none⟩) (Nat.le_refl _) (.int .u64 ((l.getD (i + 1) 0 + x / 65536 : Nat) : Int))
            have hzs := (hz.other (a := ⟨w0.heap.size, i, none⟩) (by show w0.heap.size ≠ w0.heap.size + 1; omega) (.int .u64 ((x % 65536 : Nat) : Int))).other (a := ⟨w0.heap.size, i + 1, none⟩) (by show w0.heap.size ≠ w0.heap.size + 1; omega) (.int .u64 ((l.getD (i + 1) 0 + x / 65536 : Nat) : Int))
            rw [← hx] at hn c0
            rw [show ((x % 65536 : Nat) : Int) = (x : Int) % 65536 by omega, show ((l.getD (i + 1) 0 + x / 65536 : Nat) : Int) = ((l.getD (i + 1) 0 : Nat) : Int) + (x : Int) / 65536 by omega] at hs hgs hzs
            rw [show ((x % 65536 : Nat) : Int) = (x : Int) % 65536 by omega] at f1
            have hyl : l.getD (i + 1) 0 < 2 ^ 60 := by omega
            have HJ := Lib.hid (And.intro hn (And.intro hgs (And.intro hs hzs))); clear hn hgs hs hzs hd ha hg hb hz hr vn
            have hxl : x < 2 ^ 60 + 2 ^ 45 := by omega
            clear vh vl hx
            generalize l.getD (i + 1) 0 = y at *
            go_wp2
            exact ⟨⟨i + 1, _, by omega, by congr 1, ⟨fun _ => HJ.out.1, fun h => by omega⟩, HJ.out.2.1, HJ.out.2.2.1, HJ.out.2.2.2⟩, by simp [intOf]; omega⟩
          · obtain rfl : i = 15 := by omega
            have c1 := cell hb 0 (by omega)
            have f1 := (set hb 15 (x % 65536)).free 0
            have vy := ha.done 0 (by omega)
            have hn := ha.last vl
            have h0 : (l.set 15 (l.getD 15 0 % 65536)).getD 0 0 = l.getD 0 0 := by rw [set_getD _ _ _ _ (by omega), if_neg (by omega)]
            obtain ⟨y, hy⟩ : ∃ y, y = l.getD 0 0 := ⟨_, rfl⟩
            have hs := set (set hb 15 (x % 65536)) 0 (y + 38 * (x / 65536))
            have hgs := gb_set_new (gb_set_new hg (p := ⟨w0.heap.size, 15, none⟩) (Nat.le_refl _) (.int .u64 ((x % 65536 : Nat) : Int))) (p := ⟨w0.heap.size, 0, none⟩) (Nat.le_refl _) (.int .u64 ((y + 38 * (x / 65536) : Nat) : Int))
            have hzs := (hz.other (a := ⟨w0.heap.size, 15, none⟩) (by show w0.heap.size ≠ w0.heap.size + 1; omega) (.int .u64 ((x % 65536 : Nat) : Int))).other (a := ⟨w0.heap.size, 0, none⟩) (by show w0.heap.size ≠ w0.heap.size + 1; omega) (.int .u64 ((y + 38 * (x / 65536) : Nat) : Int))
            rw [h0, ← hx, ← hy] at hn
            rw [← hx] at c0
            rw [← hy] at c1
            rw [show ((x % 65536 : Nat) : Int) = (x : Int) % 65536 by omega, show ((y + 38 * (x / 65536) : Nat) : Int) = (y : Int) + 38 * ((x : Int) / 65536) by omega] at hs hgs hzs
            rw [show ((x % 65536 : Nat) : Int) = (x : Int) % 65536 by omega] at f1
            have hyl : y < 65536 := by omega
            have hxl : x < 2 ^ 60 + 2 ^ 45 := by omega
            have HJ := Lib.hid (And.intro hn (And.intro hgs (And.intro hs hzs))); clear hn hgs hs hzs hd ha hg hb hz
            clear vh vl hx hy vy h0
            go_wp2
            exact ⟨⟨16, _, by omega, by congr 1, ⟨fun h => by omega, fun _ => HJ.out.1⟩, HJ.out.2.1, HJ.out.2.2.1, HJ.out.2.2.2⟩, by simp [intOf]⟩
        · obtain rfl : i = 16 := by omega
          have hn := HI.out.1.next HV.out.1 hd
          have HJ := Lib.hid (And.intro hn (And.intro hg (And.intro hb hz))); clear hn hd hg hb hz
          go_wp2
          go_roundw
          case rel => exact ⟨k + 1, l, by omega, by go_num, HJ.out.1, HJ.out.2.1, HJ.out.2.2.1, HJ.out.2.2.2⟩
          case measure => simp [intOf]; omega
    · obtain rfl : k = 6 := by omega
      have hw := hp.whole (by omega)
      have hl := hp.len
      have hval := hp.val
      have hm : V l0 % (2 ^ 255 - 19) = v % (2 ^ 255 - 19) := by rw [hval]; exact it_mod 6 v
      have hlt2 := V_lt l0 hw
      rw [hl] at hlt2
      have HI := Lib.hid (And.intro hg (And.intro hb hz)); clear hg hb hz hp hval
      have HW := Lib.hid (And.intro hw (And.intro hl (And.intro hm hlt2))); clear hw hl hm hlt2 hlt
      go_wp2
      go_loopw [] (fun wr => ∃ (l : List Nat), Hid (Whole l ∧ l.length = 16 ∧ V l % (2 ^ 255 - 19) = v % (2 ^ 255 - 19) ∧ V l < 65536 ^ 16) ∧ w0.grownBy wr none ∧ Blk wr w0.heap.size 31 (pL l) ∧ Blk wr (w0.heap.size + 1) 31 (pL zeros)) (fun wr => valAt wr w0.heap.size)
      case atStart => exact ⟨l0, HW, HI.out.1, HI.out.2.1, HI.out.2.2⟩
      case round =>
        clear HI HW
        obtain ⟨l, HW, hg, hb, hz⟩ := hrel
        have hl := HW.out.2.1
        have HI := Lib.hid (And.intro hg (And.intro hb hz)); clear hg hb hz
        obtain ⟨hd, hdc⟩ : ∃ b, b = decide (V l < V Pp) := ⟨_, rfl⟩
        go_upto_region 12 with (fail)
        refine Fg.region_t [] [.any, .any, .any, .any, .any, .any, .any, .any, .any, .any, .any, .any, .any, .any, .any, .any, .any, .any, .any, .any, .any, .any, .any, .any, .any, .any, .any, .any, .any, .any, .any, .any, .any, .any, .any, .any, .any, .any, .any, .any, .any, .val (nV l), .val (nV Pp)] wr 2 (gb_refl _ _) (by kernel_rfl) (by kernel_rfl) (by kernel_rfl) (by kernel_rfl) (by decide) (by kernel_rfl) ?_ ?_
        · refine ⟨Fg.vT rfl (by decide) fun ac w h => ?_, ?_⟩
          · have e1 : ac.tmps.getD 1 undef = Value.pointer (some ⟨w0.heap.size, 0, none⟩) := h.rest 1 (by kernel_rfl)
            refine ⟨nV l, w, wants_none rfl, ?_, gb_refl _ _, rfl⟩
            exact ld rfl e1 (HI.out.2.1.grown h.base (by simp)) hl rfl rfl
          refine ⟨Fg.cT rfl (by decide) fun ac w h => ?_, ?_⟩
          · refine ⟨28, #[], wants_none rfl, Fg.run_call rfl rfl (by simp only [List.map_toArray, List.map_nil]) (Fg.run_enter Tryz.func28 (by kernel_rfl) (by kernel_rfl)), ?_⟩
            exact (p_any w).mono fun _ _ ⟨he, hg⟩ => ⟨_, he, hg, rfl⟩
          trivial
        · intro aq wq hB hsz hdf hrest hslots hpt
          have e41 : aq.tmps.getD 41 undef = nV l := hslots 41 (by kernel_rfl)
          have e42 : aq.tmps.getD 42 undef = nV Pp := hslots 42 (by kernel_rfl)
          obtain rfl := Fg.frame_is (a := aq) (vs := [Value.agg (pL t).toArray, Value.pointer (some ⟨w0.heap.size, 0, none⟩), Value.pointer (some ⟨w0.heap.size + 1, 0, none⟩), Value.int .i64 ((6 : Nat) : Int), u4, u5, Value.int .i64 ((6 : Nat) : Int), Value.bool false, u8, u9, u10, u11, u12, u13, u14, u15, u16, u17, u18, u19, u20, u21, u22, u23, u24, u25, u26, u27, u28, u29, u30, u31, u32, u33, u34, u35, u36, u37, u38, u39, u40, nV l, nV Pp, u43, u44, u45, u46, undef]) hsz ⟨hrest 0 (by kernel_rfl), hrest 1 (by kernel_rfl), hrest 2 (by kernel_rfl), hrest 3 (by kernel_rfl), hrest 4 (by kernel_rfl), hrest 5 (by kernel_rfl), hrest 6 (by kernel_rfl), hrest 7 (by kernel_rfl), hrest 8 (by kernel_rfl), hrest 9 (by kernel_rfl), hrest 10 (by kernel_rfl), hrest 11 (by kernel_rfl), hrest 12 (by kernel_rfl), hrest 13 (by kernel_rfl), hrest 14 (by kernel_rfl), hrest 15 (by kernel_rfl), hrest 16 (by kernel_rfl), hrest 17 (by kernel_rfl), hrest 18 (by kernel_rfl), hrest 19 (by kernel_rfl), hrest 20 (by kernel_rfl), hrest 21 (by kernel_rfl), hrest 22 (by kernel_rfl), hrest 23 (by kernel_rfl), hrest 24 (by kernel_rfl), hrest 25 (by kernel_rfl), hrest 26 (by kernel_rfl), hrest 27 (by kernel_rfl), hrest 28 (by kernel_rfl), hrest 29 (by kernel_rfl), hrest 30 (by kernel_rfl), hrest 31 (by kernel_rfl), hrest 32 (by kernel_rfl), hrest 33 (by kernel_rfl), hrest 34 (by kernel_rfl), hrest 35 (by kernel_rfl), hrest 36 (by kernel_rfl), hrest 37 (by kernel_rfl), hrest 38 (by kernel_rfl), hrest 39 (by kernel_rfl), hrest 40 (by kernel_rfl), e41, e42, hrest 43 (by kernel_rfl), hrest 44 (by kernel_rfl), hrest 45 (by kernel_rfl), hrest 46 (by kernel_rfl), hrest 47 (by kernel_rfl), trivial⟩ hdf
          clear hsz hdf hrest hslots hpt e41 e42
          refine Fg.wpl_call rfl (Fg.run_call (vs := #[nV l, nV Pp]) rfl rfl (by simp only [List.map_toArray, List.map_cons, List.map_nil, Act.eval]; rfl) (Fg.run_enter Tryz.func27 (by kernel_rfl) (by kernel_rfl))) ?_
          refine (less_any l Pp wq HW.out.1 Pp_whole hl Pp_len).mono ?_
          rintro e w5 ⟨rfl, gw5⟩
          refine ⟨_, rfl, ?_⟩
          simp only [Act.put, List.setIfInBounds_toArray, List.set_cons_succ, List.set_cons_zero]
          rw [← hdc]
          have HB := Lib.hid (gb_trans hB gw5); clear hB gw5
          cases hd with
          | true =>
            have hlt : V l < V Pp := of_decide_eq_true hdc.symm
            have e : l = num v := by
              rw [num_of l HW.out.1 hl (by rw [← Pp_V]; exact hlt)]
              exact num_congr HW.out.2.2.1
            refine Fg.wpl_value (v := .bool false) (w' := w5) rfl (by go_simp) ?_
            refine wpList_nil ?_
            simp only [Act.put, List.setIfInBounds_toArray, List.set_cons_succ, List.set_cons_zero]
            have hb := HI.out.2.1.grown HB.out (by simp)
            have hz := HI.out.2.2.grown HB.out (by simp)
            have hg := gb_trans HI.out.1 HB.out
            rw [e] at hb
            have hnl : (num v).length = 16 := by rw [← e]; exact hl
            have zz := hz.lt
            clear e hdc
            go_upto_region 14 with (fail)
            obtain ⟨rN, hrN⟩ : ∃ r : List Nat, r = num v := ⟨_, rfl⟩
            have hrl : rN.length = 16 := by rw [hrN]; exact hnl
            have hrb := hb
            rw [← hrN] at hrb
            have HRN := Lib.hid hrN; clear hrN
            refine wp_region_lit ?_
            refine Fg.wpl_value (v := nV rN) (w' := _) rfl (ld rfl rfl hrb hrl rfl rfl) ?_
            simp only [Act.put, List.setIfInBounds_toArray, List.set_cons_succ, List.set_cons_zero]
            refine Fg.wpl_skip rfl rfl (st (l := rN) rfl rfl rfl (hz) (by rw [pL_len]; rfl) (hrl) rfl) ?_
            refine wpList_nil ?_
            have hR := stored (l := rN) (hz) (by rw [pL_len]; rfl) (hrl)
            have gR := gb_setCells_new (cs := pL rN) (hg) (B := w0.heap.size + 1) (by omega) 0
            revert gR; revert hR
            generalize World.setCells _ _ _ _ = wR
            intro hR gR
            go_wp2_with fail
            exact bodyPost_ret (v := nV rN) (res Tryz.results52 _ _ (w0.heap.size + 1) rN rfl hR (hrl)) rfl ⟨by rw [HRN.out, HVe.out], gR⟩
          | false =>
            have hge : V Pp ≤ V l := by have := of_decide_eq_false hdc.symm; omega
            refine Fg.wpl_value (v := .bool true) (w' := w5) rfl (by go_simp) ?_
            refine wpList_nil ?_
            simp only [Act.put, List.setIfInBounds_toArray, List.set_cons_succ, List.set_cons_zero]
            go_upto_region 13 with (fail)
            refine wp_region_lit ?_
            refine Fg.wpl_value (v := nV (l)) (w' := w5) rfl (ld rfl rfl (HI.out.2.1.grown HB.out (by simp)) (hl) rfl rfl) ?_
            simp only [Act.put, List.setIfInBounds_toArray, List.set_cons_succ, List.set_cons_zero]
            refine Fg.wpl_call rfl (Fg.run_call (vs := #[nV l]) rfl rfl (by simp only [List.map_toArray, List.map_cons, List.map_nil, Act.eval]; rfl) (Fg.run_enter Tryz.func85 (by kernel_rfl) (by kernel_rfl))) ?_
            refine (lessP_any l w5 HW.out.1 hl hge).mono ?_
            rintro e w6 ⟨rfl, gw6⟩
            refine ⟨_, rfl, ?_⟩
            simp only [Act.put, List.setIfInBounds_toArray, List.set_cons_succ, List.set_cons_zero]
            have hb6 := (HI.out.2.1.grown HB.out (by simp)).grown gw6 (by simp)
            have hlt := HW.out.2.2.2
            obtain ⟨r, hr⟩ : ∃ r, r = parts 16 (V l - V Pp) := ⟨_, rfl⟩
            have hrw : Whole r := by rw [hr]; exact parts_whole 16 _
            have hrl : r.length = 16 := by rw [hr]; exact parts16_len _
            have hrv : V r = V l - V Pp := by rw [hr]; exact V_parts 16 _ (by omega)
            have hm := less_mod hge
            rw [← hrv] at hm
            have hrd : V r < V l := by rw [hrv]; exact less_p hge
            have HQ := Lib.hid (And.intro hrw (And.intro hrl (And.intro (hm.trans HW.out.2.2.1) (Nat.lt_trans hrd hlt))))
            rw [← hr]
            clear hr hrw hm hrv hlt hge
            refine Fg.wpl_skip rfl rfl (st (l := r) rfl rfl rfl hb6 (by rw [pL_len, hl]) hrl rfl) ?_
            refine wpList_nil ?_
            have hR := stored (l := r) hb6 (by rw [pL_len, hl]) hrl
            have gR := gb_setCells_new (cs := pL r) (gb_trans (gb_trans HI.out.1 HB.out) gw6) (B := w0.heap.size) (Nat.le_refl _) 0
            have hzR := ((HI.out.2.2.grown HB.out (by simp)).grown gw6 (by simp)).setCells_other (cs := pL r) (C := w0.heap.size) 0 (by omega)
            have hvw := valAt_is HI.out.2.1 hl
            revert hzR; revert hR; revert gR
            generalize World.setCells _ _ _ _ = wR
            intro gR hR hzR
            have hvR := valAt_is hR hrl
            have HR := Lib.hid (And.intro gR (And.intro hR hzR))
            have hdec : Hid (valAt wR w0.heap.size < valAt wr w0.heap.size) := Lib.hid (by rw [hvR, hvw]; exact hrd)
            clear gR hR hzR hvR hvw hb6 gw6 hdc hrd
            go_wp2
            go_roundw
            case rel => exact ⟨r, HQ, HR.out.1, HR.out.2.1, HR.out.2.2⟩
            case measure => exact hdec.out
end Nr
end Go.Proofs.YtcmnecnbcohaeaaGreatDoor

/- The document's field: Small, Add, Odd. -/
namespace Go.Proofs.YtcmnecnbcohaeaaGreatDoor
open Go.RowKit Ns
namespace Nr
theorem num_len (v : Nat) : (num v).length = 16 := parts_len 16 _
theorem num_whole (v : Nat) : Whole (num v) := parts_whole 16 _
set_option maxRecDepth 100000 in
set_option maxHeartbeats 2000000 in
theorem small_any (x : Nat) (w0 : World) (hx : x < 2 ^ 60) : Calls Tryz.prog 42 #[.int .u64 (x : Int)] w0 (Out (num x) w0) := by
  go_enter Tryz.func42, Tryz.ntmps42
  go_upto_region 2 with (fail)
  show Code.wp _ _ _ _ ((w0.alloc (.cells (pL zeros).toArray 31)).alloc (.cells (pL zeros).toArray 31))
  have bA := (new (w := w0) rfl zeros).alloc (.cells (pL zeros).toArray 31)
  have bB := new (w := w0.alloc (.cells (pL zeros).toArray 31)) (B := w0.heap.size + 1) (by simp) zeros
  have g2 := gb_alloc (gb_alloc (gb_refl w0 none) (.cells (pL zeros).toArray 31)) (.cells (pL zeros).toArray 31)
  revert g2; revert bB; revert bA
  generalize (w0.alloc (.cells (pL zeros).toArray 31)).alloc (.cells (pL zeros).toArray 31) = w2
  intro bA bB g2
  have c0 := cell bB 0 (by decide)
  have f0 := bB.free 0
  have hs := set bB 0 x
  have hz := bA.other (a := ⟨w0.heap.size + 1, 0, none⟩) (by show w0.heap.size + 1 ≠ w0.heap.size; omega) (.int .u64 (x : Int))
  have hg := gb_set_new g2 (p := ⟨w0.heap.size + 1, 0, none⟩) (Nat.le_succ _) (.int .u64 (x : Int))
  have hl : (zeros.set 0 x).length = 16 := rfl
  have hv : V (zeros.set 0 x) = x := by show x + 65536 * V (List.replicate 15 0) = x; rw [show V (List.replicate 15 0) = 0 by decide]; omega
  have hlow : ∀ j, (zeros.set 0 x).getD j 0 < 2 ^ 60 := fun j => by
    rw [set_getD _ _ _ _ (by decide)]
    split
    · exact hx
    · rw [List.getD_eq_getElem?_getD]
      by_cases h : j < 16
      · rw [List.getElem?_replicate_of_lt h]; decide
      · rw [List.getElem?_eq_none (by rw [List.length_replicate]; omega)]; decide
  obtain ⟨T, hT⟩ : ∃ T, T = zeros.set 0 x := ⟨_, rfl⟩
  rw [← hT] at hs hl hv hlow
  have HI := Lib.hid (And.intro hg (And.intro hz hs)); clear hg hz hs bA bB g2 hT
  go_upto_region 3 with (fail)
  obtain ⟨W3, hW3⟩ : ∃ W3, W3 = w2.setCell ⟨w0.heap.size + 1, 0, none⟩ (.int .u64 (x : Int)) := ⟨_, rfl⟩
  rw [← hW3] at HI ⊢
  clear hW3 c0 f0
  refine wp_region_lit ?_
  refine Fg.wpl_value (v := nV (T)) (w' := W3) rfl (ld rfl rfl (HI.out.2.2) (hl) rfl rfl) ?_
  simp only [Act.put, List.setIfInBounds_toArray, List.set_cons_succ, List.set_cons_zero]
  refine Fg.wpl_call rfl (Fg.run_call (vs := #[nV (T)]) rfl rfl (by simp only [List.map_toArray, List.map_cons, List.map_nil, Act.eval]; rfl) (Fg.run_enter Tryz.func52 (by kernel_rfl) (by kernel_rfl))) ?_
  refine (whole_any T W3 hl hlow).mono ?_
  rintro e wF ⟨rfl, gwF⟩
  refine ⟨_, rfl, ?_⟩
  simp only [Act.put, List.setIfInBounds_toArray, List.set_cons_succ, List.set_cons_zero]
  obtain ⟨rN, hrN⟩ : ∃ r : List Nat, r = num (V T) := ⟨_, rfl⟩
  have hrl : rN.length = 16 := by rw [hrN]; exact num_len _
  rw [← hrN]
  have HRN := Lib.hid hrN; clear hrN
  refine Fg.wpl_skip rfl rfl (st (l := rN) rfl rfl rfl ((HI.out.2.1).grown gwF (by simp)) (by rw [pL_len]; rfl) hrl rfl) ?_
  refine wpList_nil ?_
  have hR := stored (l := rN) ((HI.out.2.1).grown gwF (by simp)) (by rw [pL_len]; rfl) hrl
  have gR := gb_setCells_new (cs := pL rN) (gb_trans (HI.out.1) gwF) (B := w0.heap.size) (by omega) 0
  revert gR; revert hR
  generalize World.setCells _ _ _ _ = wR
  intro hR gR
  go_wp2_with fail
  exact bodyPost_ret (v := nV rN) (res Tryz.results42 _ _ (w0.heap.size) rN rfl hR hrl) rfl ⟨by rw [HRN.out, hv], gR⟩
/-- amid a sum -/
structure SumI (a b : List Nat) (k : Nat) (l : List Nat) : Prop where
  len : l.length = 16
  val : V l = V (a.take k) + V (b.take k)
  low : ∀ j, l.getD j 0 < 131072
  rest : ∀ j, k ≤ j → l.getD j 0 = 0
theorem zeros_get (j : Nat) : zeros.getD j 0 = 0 := by
  rw [List.getD_eq_getElem?_getD]
  by_cases h : j < 16
  · rw [List.getElem?_replicate_of_lt h]; rfl
  · rw [List.getElem?_eq_none (by rw [List.length_replicate]; omega)]; rfl
theorem SumI.start (a b : List Nat) : SumI a b 0 zeros := ⟨rfl, by simp [V_zeros, V], fun j => by rw [zeros_get]; decide, fun j _ => zeros_get j⟩
theorem SumI.next {a b l : List Nat} {k : Nat} (h : SumI a b k l) (hk : k < 16) (la : a.length = 16) (lb : b.length = 16) (ha : Whole a) (hb : Whole b) : SumI a b (k + 1) (l.set k (a.getD k 0 + b.getD k 0)) := by
  have hl := h.len
  have h0 := h.rest k (Nat.le_refl _)
  have va := of_whole ha k
  have vb := of_whole hb k
  refine ⟨by rw [List.length_set]; exact hl, ?_, fun j => ?_, fun j hj => ?_⟩
  · have h1 := V_set l k (a.getD k 0 + b.getD k 0) (by omega)
    rw [h0, Nat.mul_zero, Nat.add_zero] at h1
    rw [h1, V_take_succ a k (by omega), V_take_succ b k (by omega), h.val, Nat.mul_add]
    omega
  · rw [set_getD _ _ _ _ (by omega)]
    split
    · omega
    · exact h.low j
  · rw [set_getD _ _ _ _ (by omega), if_neg (by omega)]
    exact h.rest j (by omega)
set_option maxRecDepth 100000 in
set_option maxHeartbeats 4000000 in
theorem add_any (a b : List Nat) (w0 : World) (ha : Whole a) (hb : Whole b) (la : a.length = 16) (lb : b.length = 16) : Calls Tryz.prog 39 #[nV a, nV b] w0 (Out (num (V a + V b)) w0) := by
  unfold nV
  go_enter Tryz.func39, Tryz.ntmps39
  go_upto_region 2 with (fail)
  show Code.wp _ _ _ _ ((((w0.alloc (.cells (pL a).toArray 31)).alloc (.cells (pL b).toArray 31)).alloc (.cells (pL zeros).toArray 31)).alloc (.cells (pL zeros).toArray 31))
  obtain ⟨b1, b2, b3, b4, g4⟩ := four w0 a b
  revert g4; revert b4; revert b3; revert b2; revert b1
  generalize ((((w0.alloc (.cells (pL a).toArray 31)).alloc (.cells (pL b).toArray 31)).alloc (.cells (pL zeros).toArray 31)).alloc (.cells (pL zeros).toArray 31)) = w2
  intro b1 b2 b3 b4 g4
  have H2 := Lib.hid (And.intro g4 (And.intro b1 (And.intro b2 (And.intro b3 b4)))); clear g4 b1 b2 b3 b4
  have HA := Lib.hid (And.intro ha hb); clear ha hb
  go_wp2
  go_loopw [6] (fun i wr => ∃ (k : Nat) (l : List Nat), k ≤ 16 ∧ i = .int .i64 k ∧ SumI a b k l ∧ w0.grownBy wr none ∧ Blk wr w0.heap.size 31 (pL a) ∧ Blk wr (w0.heap.size + 1) 31 (pL b) ∧ Blk wr (w0.heap.size + 2) 31 (pL zeros) ∧ Blk wr (w0.heap.size + 3) 31 (pL l)) (fun i _ => 16 - (intOf i).toNat)
  case atStart => exact ⟨0, zeros, by omega, rfl, SumI.start a b, H2.out.1, H2.out.2.1, H2.out.2.2.1, H2.out.2.2.2.1, H2.out.2.2.2.2⟩
  case round =>
    obtain ⟨k, l, hk, rfl, hs, hg, h1, h2, h3, h4⟩ := hrel
    by_cases hlt : k < 16
    · have i0 : (k : Int) < 16 := by omega
      have hl := hs.len
      have c0 := cell h1 k (by omega)
      have c1 := cell h2 k (by omega)
      have c2 := cell h4 k (by omega)
      have hbd := h4.grown (gb_drew (gb_refl wr none)) (by simp)
      have f0 := hbd.free k
      have va := of_whole HA.out.1 k
      have vb := of_whole HA.out.2 k
      have hn := hs.next hlt la lb HA.out.1 HA.out.2
      have hst := set hbd k (a.getD k 0 + b.getD k 0)
      have hgs := gb_set_new (gb_drew hg) (p := ⟨w0.heap.size + 3, k, none⟩) (by show w0.heap.size ≤ w0.heap.size + 3; omega) (.int .u64 ((a.getD k 0 + b.getD k 0 : Nat) : Int))
      have ho := fun (B : Nat) (L : List Nat) (hB : w0.heap.size + 3 ≠ B) (h : Blk wr B 31 (pL L)) => (h.grown (gb_drew (gb_refl wr none)) (by simp)).other (a := ⟨w0.heap.size + 3, k, none⟩) hB (.int .u64 ((a.getD k 0 + b.getD k 0 : Nat) : Int))
      have o1 := ho _ _ (by omega) h1
      have o2 := ho _ _ (by omega) h2
      have o3 := ho _ _ (by omega) h3
      rw [show ((a.getD k 0 + b.getD k 0 : Nat) : Int) = ((a.getD k 0 : Nat) : Int) + ((b.getD k 0 : Nat) : Int) by omega] at hst hgs o1 o2 o3
      have HI := Lib.hid (And.intro hn (And.intro hgs (And.intro o1 (And.intro o2 (And.intro o3 hst))))); clear hn hgs o1 o2 o3 hst hs hg h1 h2 h3 h4 hbd ho
      generalize a.getD k 0 = x at *
      generalize b.getD k 0 = y at *
      go_wp2
      go_region
      go_wp2
      exact ⟨⟨k + 1, _, by omega, by congr 1, HI.out.1, HI.out.2.1, HI.out.2.2.1, HI.out.2.2.2.1, HI.out.2.2.2.2.1, HI.out.2.2.2.2.2⟩, by simp [intOf]; omega⟩
    · obtain rfl : k = 16 := by omega
      have hl := hs.len
      have hv := hs.val
      rw [List.take_of_length_le (Nat.le_of_eq la), List.take_of_length_le (Nat.le_of_eq lb)] at hv
      have hlow : ∀ j, l.getD j 0 < 2 ^ 60 := fun j => Nat.lt_trans (hs.low j) (by decide)
      have zz := h4.lt
      clear hs
      go_upto_region 6 with (fail)
      refine wp_region_lit ?_
      refine Fg.wpl_value (v := nV (l)) (w' := wr) rfl (ld rfl rfl (h4) (hl) rfl rfl) ?_
      simp only [Act.put, List.setIfInBounds_toArray, List.set_cons_succ, List.set_cons_zero]
      refine Fg.wpl_call rfl (Fg.run_call (vs := #[nV (l)]) rfl rfl (by simp only [List.map_toArray, List.map_cons, List.map_nil, Act.eval]; rfl) (Fg.run_enter Tryz.func52 (by kernel_rfl) (by kernel_rfl))) ?_
      refine (whole_any l wr hl hlow).mono ?_
      rintro e wF ⟨rfl, gwF⟩
      refine ⟨_, rfl, ?_⟩
      simp only [Act.put, List.setIfInBounds_toArray, List.set_cons_succ, List.set_cons_zero]
      obtain ⟨rN, hrN⟩ : ∃ r : List Nat, r = num (V l) := ⟨_, rfl⟩
      have hrl : rN.length = 16 := by rw [hrN]; exact num_len _
      rw [← hrN]
      have HRN := Lib.hid hrN; clear hrN
      refine Fg.wpl_skip rfl rfl (st (l := rN) rfl rfl rfl ((h3).grown gwF (by simp)) (by rw [pL_len]; rfl) hrl rfl) ?_
      refine wpList_nil ?_
      have hR := stored (l := rN) ((h3).grown gwF (by simp)) (by rw [pL_len]; rfl) hrl
      have gR := gb_setCells_new (cs := pL rN) (gb_trans (hg) gwF) (B := w0.heap.size + 2) (by omega) 0
      revert gR; revert hR
      generalize World.setCells _ _ _ _ = wR
      intro hR gR
      go_wp2_with fail
      exact bodyPost_ret (v := nV rN) (res Tryz.results39 _ _ (w0.heap.size + 2) rN rfl hR hrl) rfl ⟨by rw [HRN.out, hv], gR⟩
set_option maxRecDepth 100000 in
set_option maxHeartbeats 1000000 in
theorem odd_any (a : List Nat) (w0 : World) (ha : Whole a) (la : a.length = 16) : Calls Tryz.prog 44 #[nV a] w0 fun e w' => e = .returned (.bool (decide (a.getD 0 0 % 2 = 1))) ∧ w0.grownBy w' none := by
  have c0 := cell (new (w := w0) rfl a) 0 (by omega)
  have v0 := of_whole ha 0
  have g := gb_alloc (gb_refl w0 none) (.cells (pL a).toArray 31)
  unfold nV
  generalize a.getD 0 0 = x at *
  have hb : bits .and .u64 (x : Int) 1 = ((x % 2 : Nat) : Int) := and_one64 x (by omega)
  have HG := Lib.hid g; clear g
  rcases Nat.mod_two_eq_zero_or_one x with h | h
  · rw [h] at hb ⊢
    go_enter Tryz.func44, Tryz.ntmps44
    go_wp2
    go_ret
    exact ⟨rfl, HG.out⟩
  · rw [h] at hb ⊢
    go_enter Tryz.func44, Tryz.ntmps44
    go_wp2
    go_ret
    exact ⟨rfl, HG.out⟩
end Nr
end Go.Proofs.YtcmnecnbcohaeaaGreatDoor

/- The document's field: Mul. -/
namespace Go.Proofs.YtcmnecnbcohaeaaGreatDoor
open Go.RowKit Ns
namespace Nr
/-- amid a product: behind i rows and k parts of the next -/
structure MulI (a b : List Nat) (i k : Nat) (l : List Nat) : Prop where
  len : l.length = 16
  val : V l % (2 ^ 255 - 19) = (V (a.take i) * V b + 65536 ^ i * a.getD i 0 * V (b.take k)) % (2 ^ 255 - 19)
  low : ∀ j, l.getD j 0 ≤ (16 * i + k) * 163208757248
theorem MulI.start (a b : List Nat) : MulI a b 0 0 zeros := ⟨rfl, by rw [V_zeros]; simp [V], fun j => by rw [zeros_get]; omega⟩
theorem MulI.row {a b l : List Nat} {i : Nat} (h : MulI a b i 16 l) (hi : i < 16) (la : a.length = 16) (lb : b.length = 16) : MulI a b (i + 1) 0 l := by
  refine ⟨h.len, ?_, fun j => ?_⟩
  · rw [h.val, List.take_of_length_le (Nat.le_of_eq lb), mul_row a i (V b) (by omega)]
    simp [V]
  · have := h.low j
    rw [show 16 * (i + 1) + 0 = 16 * i + 16 by omega]
    exact this
theorem prod_le {x y : Nat} (hx : x < 65536) (hy : y < 65536) : x * y ≤ 4294836225 := Nat.mul_le_mul (show x ≤ 65535 by omega) (show y ≤ 65535 by omega)
theorem MulI.low' {a b l : List Nat} {i k : Nat} (h : MulI a b i k l) (hi : i ≤ 16) (hk : k ≤ 16) (j : Nat) : l.getD j 0 ≤ 272 * 163208757248 :=
  Nat.le_trans (h.low j) (Nat.mul_le_mul_right _ (by omega))
theorem MulI.next {a b l : List Nat} {i k x : Nat} (j : Nat) (h : MulI a b i k l) (hj : j < 16) (hx : x ≤ 163208757248) (hv : (V l + 65536 ^ j * x) % (2 ^ 255 - 19) = (V (a.take i) * V b + 65536 ^ i * a.getD i 0 * V (b.take (k + 1))) % (2 ^ 255 - 19)) : MulI a b i (k + 1) (l.set j (l.getD j 0 + x)) := by
  have hl := h.len
  refine ⟨by rw [List.length_set]; exact hl, ?_, fun q => ?_⟩
  · rw [mul_low l j x (by omega)]
    exact hv
  · rw [set_getD _ _ _ _ (by omega), show (16 * i + (k + 1)) * 163208757248 = (16 * i + k) * 163208757248 + 163208757248 by rw [← Nat.add_assoc, Nat.add_mul, Nat.one_mul]]
    split
    · have := h.low j; omega
    · exact Nat.le_trans (h.low q) (Nat.le_add_right _ _)
theorem MulI.lowN {a b l : List Nat} {i k : Nat} (h : MulI a b i k l) (_ : k < 16) (hik : i + k < 16) (lb : b.length = 16) (ha : Whole a) (hb : Whole b) : MulI a b i (k + 1) (l.set (i + k) (l.getD (i + k) 0 + a.getD i 0 * b.getD k 0)) := by
  refine h.next (i + k) hik (Nat.le_trans (prod_le (of_whole ha i) (of_whole hb k)) (by omega)) ?_
  rw [V_take_succ b k (by omega)]
  exact mul_step h.val
theorem MulI.highN {a b l : List Nat} {i k : Nat} (h : MulI a b i k l) (hi : i < 16) (hk : k < 16) (hik : 16 ≤ i + k) (lb : b.length = 16) (ha : Whole a) (hb : Whole b) : MulI a b i (k + 1) (l.set (i + k - 16) (l.getD (i + k - 16) 0 + 38 * a.getD i 0 * b.getD k 0)) := by
  refine h.next (i + k - 16) (by omega) ?_ ?_
  · have := prod_le (of_whole ha i) (of_whole hb k)
    rw [Nat.mul_assoc]
    omega
  · rw [V_take_succ b k (by omega)]
    exact mul_step_high hik h.val
theorem MulI.done {a b l : List Nat} (h : MulI a b 16 0 l) (la : a.length = 16) : num (V l) = num (V a * V b) := by
  apply num_congr
  rw [h.val, List.take_of_length_le (Nat.le_of_eq la)]
  simp [V]
set_option maxRecDepth 100000 in
set_option maxHeartbeats 4000000 in
theorem mul_any (a b : List Nat) (w0 : World) (ha : Whole a) (hb : Whole b) (la : a.length = 16) (lb : b.length = 16) : Calls Tryz.prog 41 #[nV a, nV b] w0 (Out (num (V a * V b)) w0) := by
  unfold nV
  go_enter Tryz.func41, Tryz.ntmps41
  go_upto_region 2 with (fail)
  show Code.wp _ _ _ _ ((((w0.alloc (.cells (pL a).toArray 31)).alloc (.cells (pL b).toArray 31)).alloc (.cells (pL zeros).toArray 31)).alloc (.cells (pL zeros).toArray 31))
  obtain ⟨b1, b2, b3, b4, g4⟩ := four w0 a b
  revert g4; revert b4; revert b3; revert b2; revert b1
  generalize ((((w0.alloc (.cells (pL a).toArray 31)).alloc (.cells (pL b).toArray 31)).alloc (.cells (pL zeros).toArray 31)).alloc (.cells (pL zeros).toArray 31)) = w2
  intro b1 b2 b3 b4 g4
  have H2 := Lib.hid (And.intro g4 (And.intro b1 (And.intro b2 (And.intro b3 b4)))); clear g4 b1 b2 b3 b4
  have HA := Lib.hid (And.intro ha hb); clear ha hb
  have la' := Lib.hid la; clear la
  have lb' := Lib.hid lb; clear lb
  have hla : ∀ i, i < 16 → i < a.length := fun i hi => by have := la'.out; omega
  have hlb : ∀ i, i < 16 → i < b.length := fun i hi => by have := lb'.out; omega
  go_wp2
  go_loopw [6] (fun i wr => ∃ (k : Nat) (l : List Nat), k ≤ 16 ∧ i = .int .i64 k ∧ MulI a b k 0 l ∧ w0.grownBy wr none ∧ Blk wr w0.heap.size 31 (pL a) ∧ Blk wr (w0.heap.size + 1) 31 (pL b) ∧ Blk wr (w0.heap.size + 2) 31 (pL zeros) ∧ Blk wr (w0.heap.size + 3) 31 (pL l)) (fun i _ => 16 - (intOf i).toNat)
  case atStart => exact ⟨0, zeros, by omega, rfl, MulI.start a b, H2.out.1, H2.out.2.1, H2.out.2.2.1, H2.out.2.2.2.1, H2.out.2.2.2.2⟩
  case round =>
    obtain ⟨i, l0, hi, rfl, hs, hg, h1, h2, h3, h4⟩ := hrel
    by_cases hlt : i < 16
    · have i0 : (i : Int) < 16 := by omega
      have HJ := Lib.hid (And.intro hs (And.intro hg (And.intro h1 (And.intro h2 (And.intro h3 h4))))); clear hs hg h1 h2 h3 h4
      go_wp2
      go_loopw [7] (fun kv wr => ∃ (k : Nat) (l : List Nat), k ≤ 16 ∧ kv = .int .i64 k ∧ MulI a b i k l ∧ w0.grownBy wr none ∧ Blk wr w0.heap.size 31 (pL a) ∧ Blk wr (w0.heap.size + 1) 31 (pL b) ∧ Blk wr (w0.heap.size + 2) 31 (pL zeros) ∧ Blk wr (w0.heap.size + 3) 31 (pL l)) (fun kv _ => 16 - (intOf kv).toNat)
      case atStart => exact ⟨0, l0, by omega, rfl, HJ.out.1, HJ.out.2.1, HJ.out.2.2.1, HJ.out.2.2.2.1, HJ.out.2.2.2.2.1, HJ.out.2.2.2.2.2⟩
      case round =>
        clear HJ
        obtain ⟨k, l, hk, rfl, hs, hg, h1, h2, h3, h4⟩ := hrel
        by_cases hkt : k < 16
        · have i1 : (k : Int) < 16 := by omega
          have hl := hs.len
          have c0 := cell h1 i (hla i hlt)
          have c1 := cell h2 k (hlb k hkt)
          have va := of_whole HA.out.1 i
          have vb := of_whole HA.out.2 k
          have hpr := prod_le va vb
          have hbd := h4.grown (gb_drew (gb_refl wr none)) (by simp)
          have ek : ((i : Int) + (k : Int)).toNat = i + k := by omega
          have ho := fun (v : Value) (q B : Nat) (L : List Nat) (hB : w0.heap.size + 3 ≠ B) (h : Blk wr B 31 (pL L)) => (h.grown (gb_drew (gb_refl wr none)) (by simp)).other (a := ⟨w0.heap.size + 3, q, none⟩) hB v
          by_cases hik : i + k < 16
          · have i2 : (i : Int) + (k : Int) < 16 := by omega
            have c2 := cell h4 (i + k) (by omega)
            have f0 := hbd.free (i + k)
            have vl := hs.low' (by omega) (by omega) (i + k)
            have hn := hs.lowN hkt hik lb'.out HA.out.1 HA.out.2
            have hst := set hbd (i + k) (l.getD (i + k) 0 + a.getD i 0 * b.getD k 0)
            have hgs := gb_set_new (gb_drew hg) (p := ⟨w0.heap.size + 3, i + k, none⟩) (by show w0.heap.size ≤ w0.heap.size + 3; omega) (.int .u64 ((l.getD (i + k) 0 + a.getD i 0 * b.getD k 0 : Nat) : Int))
            have o1 := ho (.int .u64 ((l.getD (i + k) 0 + a.getD i 0 * b.getD k 0 : Nat) : Int)) (i + k) _ _ (by omega) h1
            have o2 := ho (.int .u64 ((l.getD (i + k) 0 + a.getD i 0 * b.getD k 0 : Nat) : Int)) (i + k) _ _ (by omega) h2
            have o3 := ho (.int .u64 ((l.getD (i + k) 0 + a.getD i 0 * b.getD k 0 : Nat) : Int)) (i + k) _ _ (by omega) h3
            rw [show ((l.getD (i + k) 0 + a.getD i 0 * b.getD k 0 : Nat) : Int) = ((l.getD (i + k) 0 : Nat) : Int) + ((a.getD i 0 : Nat) : Int) * ((b.getD k 0 : Nat) : Int) by rw [Int.natCast_add, Int.natCast_mul]] at hst hgs o1 o2 o3
            have hmi : ((a.getD i 0 : Nat) : Int) * ((b.getD k 0 : Nat) : Int) = ((a.getD i 0 * b.getD k 0 : Nat) : Int) := by rw [Int.natCast_mul]
            have hm0 : 0 ≤ ((a.getD i 0 : Nat) : Int) * ((b.getD k 0 : Nat) : Int) := by rw [hmi]; omega
            have hm1 : ((a.getD i 0 : Nat) : Int) * ((b.getD k 0 : Nat) : Int) ≤ 4294836225 := by rw [hmi]; omega
            have HI := Lib.hid (And.intro hn (And.intro hgs (And.intro o1 (And.intro o2 (And.intro o3 hst))))); clear hn hgs o1 o2 o3 hst hs hg h1 h2 h3 h4 hbd ho hpr hmi
            generalize l.getD (i + k) 0 = z at *
            generalize a.getD i 0 = x at *
            generalize b.getD k 0 = y at *
            go_wp2
            go_region
            go_wp2
            exact ⟨⟨k + 1, _, by omega, by congr 1, HI.out.1, HI.out.2.1, HI.out.2.2.1, HI.out.2.2.2.1, HI.out.2.2.2.2.1, HI.out.2.2.2.2.2⟩, by simp [intOf]; omega⟩
          · have i2 : ¬ (i : Int) + (k : Int) < 16 := by omega
            have i3 : (i : Int) + (k : Int) - 16 < 16 := by omega
            have i4 : 0 ≤ (i : Int) + (k : Int) - 16 := by omega
            have ej : ((i : Int) + (k : Int) - 16).toNat = i + k - 16 := by omega
            have c2 := cell h4 (i + k - 16) (by omega)
            have f0 := hbd.free (i + k - 16)
            have vl := hs.low' (by omega) (by omega) (i + k - 16)
            have hn := hs.highN hlt hkt (by omega) lb'.out HA.out.1 HA.out.2
            have hst := set hbd (i + k - 16) (l.getD (i + k - 16) 0 + 38 * a.getD i 0 * b.getD k 0)
            have hgs := gb_set_new (gb_drew hg) (p := ⟨w0.heap.size + 3, i + k - 16, none⟩) (by show w0.heap.size ≤ w0.heap.size + 3; omega) (.int .u64 ((l.getD (i + k - 16) 0 + 38 * a.getD i 0 * b.getD k 0 : Nat) : Int))
            have o1 := ho (.int .u64 ((l.getD (i + k - 16) 0 + 38 * a.getD i 0 * b.getD k 0 : Nat) : Int)) (i + k - 16) _ _ (by omega) h1
            have o2 := ho (.int .u64 ((l.getD (i + k - 16) 0 + 38 * a.getD i 0 * b.getD k 0 : Nat) : Int)) (i + k - 16) _ _ (by omega) h2
            have o3 := ho (.int .u64 ((l.getD (i + k - 16) 0 + 38 * a.getD i 0 * b.getD k 0 : Nat) : Int)) (i + k - 16) _ _ (by omega) h3
            rw [show ((l.getD (i + k - 16) 0 + 38 * a.getD i 0 * b.getD k 0 : Nat) : Int) = ((l.getD (i + k - 16) 0 : Nat) : Int) + 38 * ((a.getD i 0 : Nat) : Int) * ((b.getD k 0 : Nat) : Int) by rw [Int.natCast_add, Int.natCast_mul, Int.natCast_mul]; rfl] at hst hgs o1 o2 o3
            have hmi : 38 * ((a.getD i 0 : Nat) : Int) * ((b.getD k 0 : Nat) : Int) = ((38 * (a.getD i 0 * b.getD k 0) : Nat) : Int) := by rw [Int.natCast_mul, Int.natCast_mul, Int.mul_assoc]; rfl
            have hm0 : 0 ≤ 38 * ((a.getD i 0 : Nat) : Int) * ((b.getD k 0 : Nat) : Int) := by rw [hmi]; omega
            have hm1 : 38 * ((a.getD i 0 : Nat) : Int) * ((b.getD k 0 : Nat) : Int) ≤ 163203776550 := by rw [hmi]; omega
            have HI := Lib.hid (And.intro hn (And.intro hgs (And.intro o1 (And.intro o2 (And.intro o3 hst))))); clear hn hgs o1 o2 o3 hst hs hg h1 h2 h3 h4 hbd ho hpr hmi
            obtain ⟨j, hj⟩ : ∃ j, j = i + k - 16 := ⟨_, rfl⟩
            rw [← hj] at ej c2 f0 vl HI
            clear hj
            generalize l.getD j 0 = z at *
            generalize a.getD i 0 = x at *
            generalize b.getD k 0 = y at *
            go_wp2
            go_region
            go_wp2
            exact ⟨⟨k + 1, _, by omega, by congr 1, HI.out.1, HI.out.2.1, HI.out.2.2.1, HI.out.2.2.2.1, HI.out.2.2.2.2.1, HI.out.2.2.2.2.2⟩, by simp [intOf]; omega⟩
        · obtain rfl : k = 16 := by omega
          have HJ := Lib.hid (And.intro (hs.row hlt la'.out lb'.out) (And.intro hg (And.intro h1 (And.intro h2 (And.intro h3 h4))))); clear hs hg h1 h2 h3 h4
          go_wp2
          go_roundw
          case rel => exact ⟨i + 1, l, by omega, by go_num, HJ.out.1, HJ.out.2.1, HJ.out.2.2.1, HJ.out.2.2.2.1, HJ.out.2.2.2.2.1, HJ.out.2.2.2.2.2⟩
          case measure => simp [intOf]; omega
    · obtain rfl : i = 16 := by omega
      have hl := hs.len
      have hv := Lib.hid (hs.done la'.out)
      have hlow : ∀ j, l0.getD j 0 < 2 ^ 60 := fun j => Nat.lt_of_le_of_lt (hs.low' (by omega) (by omega) j) (by decide)
      have zz := h4.lt
      clear hs
      go_upto_region 11 with (fail)
      refine wp_region_lit ?_
      refine Fg.wpl_value (v := nV (l0)) (w' := wr) rfl (ld rfl rfl (h4) (hl) rfl rfl) ?_
      simp only [Act.put, List.setIfInBounds_toArray, List.set_cons_succ, List.set_cons_zero]
      refine Fg.wpl_call rfl (Fg.run_call (vs := #[nV (l0)]) rfl rfl (by simp only [List.map_toArray, List.map_cons, List.map_nil, Act.eval]; rfl) (Fg.run_enter Tryz.func52 (by kernel_rfl) (by kernel_rfl))) ?_
      refine (whole_any l0 wr hl hlow).mono ?_
      rintro e wF ⟨rfl, gwF⟩
      refine ⟨_, rfl, ?_⟩
      simp only [Act.put, List.setIfInBounds_toArray, List.set_cons_succ, List.set_cons_zero]
      obtain ⟨rN, hrN⟩ : ∃ r : List Nat, r = num (V l0) := ⟨_, rfl⟩
      have hrl : rN.length = 16 := by rw [hrN]; exact num_len _
      rw [← hrN]
      have HRN := Lib.hid hrN; clear hrN
      refine Fg.wpl_skip rfl rfl (st (l := rN) rfl rfl rfl ((h3).grown gwF (by simp)) (by rw [pL_len]; rfl) hrl rfl) ?_
      refine wpList_nil ?_
      have hR := stored (l := rN) ((h3).grown gwF (by simp)) (by rw [pL_len]; rfl) hrl
      have gR := gb_setCells_new (cs := pL rN) (gb_trans (hg) gwF) (B := w0.heap.size + 2) (by omega) 0
      revert gR; revert hR
      generalize World.setCells _ _ _ _ = wR
      intro hR gR
      go_wp2_with fail
      exact bodyPost_ret (v := nV rN) (res Tryz.results41 _ _ (w0.heap.size + 2) rN rfl hR hrl) rfl ⟨by rw [HRN.out, hv.out], gR⟩
end Nr
end Go.Proofs.YtcmnecnbcohaeaaGreatDoor

/- The document's field: Sub. -/
namespace Go.Proofs.YtcmnecnbcohaeaaGreatDoor
open Go.RowKit Ns
namespace Nr
/-- what is told so far, in a row of its own -/
def Half (m l : List Nat) (k : Nat) : Prop := m.length = 16 ∧ m.take k = l.take k ∧ ∀ j, m.getD j 0 < 65536
theorem Half.next {m l : List Nat} {k x : Nat} (h : Half m l k) (hk : k < 16) (hl : l.length = 16) (hx : x < 65536) : Half (m.set k x) (l.set k x) (k + 1) := by
  obtain ⟨h1, h2, h3⟩ := h
  refine ⟨by rw [List.length_set]; exact h1, ?_, fun j => ?_⟩
  · rw [take_set m k x (by omega), take_set l k x (by omega), h2]
  · rw [set_getD _ _ _ _ (by omega)]
    split
    · exact hx
    · exact h3 j
theorem Half.done {m l : List Nat} (h : Half m l 16) (hl : l.length = 16) : m = l := by
  have := h.2.1
  rwa [List.take_of_length_le (Nat.le_of_eq h.1), List.take_of_length_le (Nat.le_of_eq hl)] at this
/-- two arguments, a result -/
theorem three (w0 : World) (a b : List Nat) : Blk (((w0.alloc (.cells (pL a).toArray 31)).alloc (.cells (pL b).toArray 31)).alloc (.cells (pL zeros).toArray 31)) w0.heap.size 31 (pL a) ∧
    Blk (((w0.alloc (.cells (pL a).toArray 31)).alloc (.cells (pL b).toArray 31)).alloc (.cells (pL zeros).toArray 31)) (w0.heap.size + 1) 31 (pL b) ∧
    Blk (((w0.alloc (.cells (pL a).toArray 31)).alloc (.cells (pL b).toArray 31)).alloc (.cells (pL zeros).toArray 31)) (w0.heap.size + 2) 31 (pL zeros) ∧
    w0.grownBy (((w0.alloc (.cells (pL a).toArray 31)).alloc (.cells (pL b).toArray 31)).alloc (.cells (pL zeros).toArray 31)) none :=
  ⟨((new rfl a).alloc _).alloc _, (new (by simp) b).alloc _, new (by simp) zeros, gb_alloc (gb_alloc (gb_alloc (gb_refl w0 none) _) _) _⟩
set_option maxRecDepth 100000 in
set_option maxHeartbeats 4000000 in
theorem sub_ge (a b : List Nat) (w0 : World) (ha : Whole a) (hb : Whole b) (la : a.length = 16) (lb : b.length = 16) (hge : V b ≤ V a) : Calls Tryz.prog 40 #[nV a, nV b] w0 (Out (num (V a - V b)) w0) := by
  obtain ⟨hd, hdc⟩ : ∃ d, d = decide (V a < V b) := ⟨_, rfl⟩
  have hdf : hd = false := by rw [hdc]; exact decide_eq_false (by omega)
  subst hdf
  unfold nV
  go_enter Tryz.func40, Tryz.ntmps40
  go_upto_region 1 with (fail)
  show Code.wp _ _ _ _ (((w0.alloc (.cells (pL a).toArray 31)).alloc (.cells (pL b).toArray 31)).alloc (.cells (pL zeros).toArray 31))
  obtain ⟨b1, b2, b3, g4⟩ := three w0 a b
  revert g4; revert b3; revert b2; revert b1
  generalize (((w0.alloc (.cells (pL a).toArray 31)).alloc (.cells (pL b).toArray 31)).alloc (.cells (pL zeros).toArray 31)) = w2
  intro b1 b2 b3 g4
  refine wp_region_lit ?_
  refine Fg.wpl_value (v := nV (a)) (w' := w2) rfl (ld rfl rfl (b1) (la) rfl rfl) ?_
  simp only [Act.put, List.setIfInBounds_toArray, List.set_cons_succ, List.set_cons_zero]
  refine Fg.wpl_value (v := nV (b)) (w' := w2) rfl (ld rfl rfl (b2) (lb) rfl rfl) ?_
  simp only [Act.put, List.setIfInBounds_toArray, List.set_cons_succ, List.set_cons_zero]
  refine Fg.wpl_call rfl (Fg.run_call (vs := #[nV a, nV b]) rfl rfl (by simp only [List.map_toArray, List.map_cons, List.map_nil, Act.eval]; rfl) (Fg.run_enter Tryz.func27 (by kernel_rfl) (by kernel_rfl))) ?_
  refine (less_any a b w2 ha hb la lb).mono ?_
  rintro e w3 ⟨rfl, gw3⟩
  refine ⟨_, rfl, ?_⟩
  simp only [Act.put, List.setIfInBounds_toArray, List.set_cons_succ, List.set_cons_zero]
  rw [← hdc]
  refine wpList_nil ?_
  have HA := Lib.hid (And.intro ha (And.intro hb (And.intro la (And.intro lb hge)))); clear ha hb la lb hge hdc
  have H3 := Lib.hid (And.intro (gb_trans g4 gw3) (And.intro (b1.grown gw3 (by simp)) (And.intro (b2.grown gw3 (by simp)) (b3.grown gw3 (by simp))))); clear b1 b2 g4
  have z3 := b3.lt
  have z2 := gw3.size
  clear b3 gw3
  go_upto_region 5 with (fail)
  show Code.wp _ _ _ _ (w3.alloc (.cells (pL zeros).toArray 31))
  have b4 := new (w := w3) rfl zeros
  have H4 := Lib.hid (And.intro (gb_alloc H3.out.1 (.cells (pL zeros).toArray 31)) (And.intro (H3.out.2.1.alloc (.cells (pL zeros).toArray 31)) (And.intro (H3.out.2.2.1.alloc (.cells (pL zeros).toArray 31)) (And.intro (H3.out.2.2.2.alloc (.cells (pL zeros).toArray 31)) b4)))); clear b4 H3
  obtain ⟨Q, hQ⟩ : ∃ Q, Q = w3.heap.size := ⟨_, rfl⟩
  have zQ : w0.heap.size + 2 < Q := by omega
  rw [← hQ] at H4 ⊢
  clear hQ z3 z2
  revert H4
  generalize w3.alloc (.cells (pL zeros).toArray 31) = w4
  intro H4
  go_wp2
  go_loopw [5, 7] (fun bv i wr => ∃ (k c : Nat) (l m : List Nat), k ≤ 16 ∧ i = .int .i64 k ∧ bv = .int .u64 c ∧ Dif a b l k c ∧ Half m l k ∧ w0.grownBy wr none ∧ Blk wr w0.heap.size 31 (pL a) ∧ Blk wr (w0.heap.size + 1) 31 (pL b) ∧ Blk wr (w0.heap.size + 2) 31 (pL zeros) ∧ Blk wr Q 31 (pL m)) (fun _ i _ => 16 - (intOf i).toNat)
  case atStart => exact ⟨0, 0, a, zeros, by omega, rfl, rfl, Dif.start a b HA.out.1 HA.out.2.2.1, ⟨rfl, rfl, fun j => by rw [zeros_get]; decide⟩, H4.out.1, H4.out.2.1, H4.out.2.2.1, H4.out.2.2.2.1, H4.out.2.2.2.2⟩
  case round =>
    obtain ⟨k, c, l, m, hk, rfl, rfl, hd, hh, hg, h1, h2, h3, h4⟩ := hrel
    by_cases hlt : k < 16
    · have i0 : (k : Int) < 16 := by omega
      have ll := hd.len
      have la := HA.out.2.2.1
      have lb := HA.out.2.2.2.1
      have c0 := cell h1 k (by omega)
      have c1 := cell h2 k (by omega)
      have c2 := cell h4 k (by have := hh.1; omega)
      have va := of_whole HA.out.1 k
      have vb := of_whole HA.out.2.1 k
      have vc := hd.bor
      have hn := hd.next hlt HA.out.2.1 HA.out.1 lb la
      rw [hd.rest k (Nat.le_refl _)] at hn
      obtain ⟨x, hx⟩ : ∃ x, x = a.getD k 0 + 65536 - b.getD k 0 - c := ⟨_, rfl⟩
      rw [← hx] at hn
      have hhn := hh.next (x := x % 65536) hlt ll (by omega)
      have f0 := h4.free k
      have fd := (h4.grown (gb_drewN (gb_refl wr none) 0) (by simp)).free k
      have hbd := h4.grown (gb_drew (gb_refl wr none)) (by simp)
      have f1 := hbd.free k
      have hbit := and_part x (by omega)
      have hxl : x < 131072 := by omega
      have hst := set hbd k (x % 65536)
      have hgs := gb_set_new (gb_drew hg) (p := ⟨Q, k, none⟩) (by show w0.heap.size ≤ Q; omega) (.int .u64 ((x % 65536 : Nat) : Int))
      have ho := fun (B : Nat) (L : List Nat) (hB : Q ≠ B) (h : Blk wr B 31 (pL L)) => (h.grown (gb_drew (gb_refl wr none)) (by simp)).other (a := ⟨Q, k, none⟩) hB (.int .u64 ((x % 65536 : Nat) : Int))
      have o1 := ho _ _ (by omega) h1
      have o2 := ho _ _ (by omega) h2
      have o3 := ho _ _ (by omega) h3
      rw [show ((x % 65536 : Nat) : Int) = (x : Int) % 65536 by omega] at hst hgs o1 o2 o3
      have HI := Lib.hid (And.intro hn (And.intro hhn (And.intro hgs (And.intro o1 (And.intro o2 (And.intro o3 hst)))))); clear hn hhn hgs o1 o2 o3 hst hd hh hg h1 h2 h3 h4 hbd ho fd
      have e1 : ((a.getD k 0 : Nat) : Int) + 65536 - ((b.getD k 0 : Nat) : Int) - (c : Int) = (x : Int) := by omega
      clear hx
      generalize a.getD k 0 = ak at *
      generalize b.getD k 0 = bk at *
      go_wp2
      go_region
      go_wp2
      exact ⟨⟨k + 1, 1 - x / 65536, _, _, by omega, by congr 1, by congr 1; omega, HI.out.1, HI.out.2.1, HI.out.2.2.1, HI.out.2.2.2.1, HI.out.2.2.2.2.1, HI.out.2.2.2.2.2.1, HI.out.2.2.2.2.2.2⟩, by simp [intOf]; omega⟩
    · obtain rfl : k = 16 := by omega
      have hm := hh.done hd.len
      have hle := hd.done HA.out.2.2.2.1 HA.out.2.2.1 HA.out.2.2.2.2
      have hl := hh.1
      have hlow : ∀ j, m.getD j 0 < 2 ^ 60 := fun j => Nat.lt_trans (hh.2.2 j) (by decide)
      have ha16 := V_lt a HA.out.1
      rw [HA.out.2.2.1] at ha16
      have hv : V m = V a - V b := by rw [hm, hle]; exact V_parts 16 _ (Nat.lt_of_le_of_lt (Nat.sub_le _ _) ha16)
      have HV := Lib.hid hv
      clear hm hle hd hh hv ha16
      go_upto_region 11 with (fail)
      refine wp_region_lit ?_
      refine Fg.wpl_value (v := nV (m)) (w' := wr) rfl (ld rfl rfl (h4) (hl) rfl rfl) ?_
      simp only [Act.put, List.setIfInBounds_toArray, List.set_cons_succ, List.set_cons_zero]
      refine Fg.wpl_call rfl (Fg.run_call (vs := #[nV (m)]) rfl rfl (by simp only [List.map_toArray, List.map_cons, List.map_nil, Act.eval]; rfl) (Fg.run_enter Tryz.func52 (by kernel_rfl) (by kernel_rfl))) ?_
      refine (whole_any m wr hl hlow).mono ?_
      rintro e wF ⟨rfl, gwF⟩
      refine ⟨_, rfl, ?_⟩
      simp only [Act.put, List.setIfInBounds_toArray, List.set_cons_succ, List.set_cons_zero]
      obtain ⟨rN, hrN⟩ : ∃ r : List Nat, r = num (V m) := ⟨_, rfl⟩
      have hrl : rN.length = 16 := by rw [hrN]; exact num_len _
      rw [← hrN]
      have HRN := Lib.hid hrN; clear hrN
      refine Fg.wpl_skip rfl rfl (st (l := rN) rfl rfl rfl ((h3).grown gwF (by simp)) (by rw [pL_len]; rfl) hrl rfl) ?_
      refine wpList_nil ?_
      have hR := stored (l := rN) ((h3).grown gwF (by simp)) (by rw [pL_len]; rfl) hrl
      have gR := gb_setCells_new (cs := pL rN) (gb_trans (hg) gwF) (B := w0.heap.size + 2) (by omega) 0
      revert gR; revert hR
      generalize World.setCells _ _ _ _ = wR
      intro hR gR
      go_wp2_with fail
      exact bodyPost_ret (v := nV rN) (res Tryz.results40 _ _ (w0.heap.size + 2) rN rfl hR hrl) rfl ⟨by rw [HRN.out, HV.out], gR⟩
theorem num_V' {v : Nat} (h : v < V Pp) : V (num v) = v := by
  rw [num_V]
  rw [Pp_V] at h
  exact Nat.mod_eq_of_lt h
set_option maxRecDepth 100000 in
set_option maxHeartbeats 4000000 in
theorem sub_lt (a b : List Nat) (w0 : World) (ha : Whole a) (hb : Whole b) (la : a.length = 16) (lb : b.length = 16) (hlt : V a < V b) (hbp : V b < V Pp) : Calls Tryz.prog 40 #[nV a, nV b] w0 (Out (num (V a + V Pp - V b)) w0) := by
  obtain ⟨hd, hdc⟩ : ∃ d, d = decide (V a < V b) := ⟨_, rfl⟩
  have hdf : hd = true := by rw [hdc]; exact decide_eq_true hlt
  subst hdf
  obtain ⟨d, hde⟩ : ∃ d, d = num (V b - V a) := ⟨_, rfl⟩
  have hdw : Whole d := by rw [hde]; exact num_whole _
  have hdl : d.length = 16 := by rw [hde]; exact num_len _
  have hdv : V d = V b - V a := by rw [hde]; exact num_V' (Nat.lt_of_le_of_lt (Nat.sub_le _ _) hbp)
  obtain ⟨r, hre⟩ : ∃ r, r = num (V Pp - V d) := ⟨_, rfl⟩
  have hrr : r = num (V a + V Pp - V b) := by rw [hre, hdv]; congr 1; omega
  have hrl : r.length = 16 := by rw [hre]; exact num_len _
  have c1 := fun w => sub_ge b a w hb ha lb la (Nat.le_of_lt hlt)
  have c2 := fun w => sub_ge Pp d w Pp_whole hdw Pp_len hdl (by rw [hdv]; exact Nat.le_trans (Nat.sub_le _ _) (Nat.le_of_lt hbp))
  rw [← hde] at c1
  rw [← hre] at c2
  have HC := Lib.hid (And.intro c1 (And.intro c2 hrr)); clear c1 c2 hrr hre hde hdv hdw hdl
  unfold nV
  go_enter Tryz.func40, Tryz.ntmps40
  go_upto_region 1 with (fail)
  show Code.wp _ _ _ _ (((w0.alloc (.cells (pL a).toArray 31)).alloc (.cells (pL b).toArray 31)).alloc (.cells (pL zeros).toArray 31))
  obtain ⟨b1, b2, b3, g4⟩ := three w0 a b
  revert g4; revert b3; revert b2; revert b1
  generalize (((w0.alloc (.cells (pL a).toArray 31)).alloc (.cells (pL b).toArray 31)).alloc (.cells (pL zeros).toArray 31)) = w2
  intro b1 b2 b3 g4
  refine wp_region_lit ?_
  refine Fg.wpl_value (v := nV (a)) (w' := w2) rfl (ld rfl rfl (b1) (la) rfl rfl) ?_
  simp only [Act.put, List.setIfInBounds_toArray, List.set_cons_succ, List.set_cons_zero]
  refine Fg.wpl_value (v := nV (b)) (w' := w2) rfl (ld rfl rfl (b2) (lb) rfl rfl) ?_
  simp only [Act.put, List.setIfInBounds_toArray, List.set_cons_succ, List.set_cons_zero]
  refine Fg.wpl_call rfl (Fg.run_call (vs := #[nV a, nV b]) rfl rfl (by simp only [List.map_toArray, List.map_cons, List.map_nil, Act.eval]; rfl) (Fg.run_enter Tryz.func27 (by kernel_rfl) (by kernel_rfl))) ?_
  refine (less_any a b w2 ha hb la lb).mono ?_
  rintro e w3 ⟨rfl, gw3⟩
  refine ⟨_, rfl, ?_⟩
  simp only [Act.put, List.setIfInBounds_toArray, List.set_cons_succ, List.set_cons_zero]
  rw [← hdc]
  refine wpList_nil ?_
  have H3 := Lib.hid (And.intro (gb_trans g4 gw3) (And.intro (b1.grown gw3 (by simp)) (And.intro (b2.grown gw3 (by simp)) (b3.grown gw3 (by simp))))); clear b1 b2 b3 g4 gw3 hdc
  go_upto_region 2 with (fail)
  refine Fg.region_t [] [.any, .any, .any, .any, .any, .any, .any, .any, .any, .any, .any, .any, .val (nV Pp), .val (nV b), .val (nV a), .val (nV d), .val (nV r)] w3 5 (gb_refl _ _) (by kernel_rfl) (by kernel_rfl) (by kernel_rfl) (by kernel_rfl) (by decide) (by kernel_rfl) ?_ ?_
  · refine ⟨Fg.cT rfl (by decide) fun ac w h => ?_, ?_⟩
    · refine ⟨28, #[], wants_none rfl, Fg.run_call rfl rfl (by simp only [List.map_toArray, List.map_nil]) (Fg.run_enter Tryz.func28 (by kernel_rfl) (by kernel_rfl)), ?_⟩
      exact (p_any w).mono fun _ _ ⟨he, hg⟩ => ⟨_, he, hg, rfl⟩
    refine ⟨Fg.vT rfl (by decide) fun ac w h => ?_, ?_⟩
    · have e3 : ac.tmps.getD 3 undef = Value.pointer (some ⟨w0.heap.size + 1, 0, none⟩) := h.rest 3 (by kernel_rfl)
      refine ⟨nV b, w, wants_none rfl, ?_, gb_refl _ _, rfl⟩
      exact ld rfl e3 (H3.out.2.2.1.grown h.base (by simp)) lb rfl rfl
    refine ⟨Fg.vT rfl (by decide) fun ac w h => ?_, ?_⟩
    · have e2 : ac.tmps.getD 2 undef = Value.pointer (some ⟨w0.heap.size, 0, none⟩) := h.rest 2 (by kernel_rfl)
      refine ⟨nV a, w, wants_none rfl, ?_, gb_refl _ _, rfl⟩
      exact ld rfl e2 (H3.out.2.1.grown h.base (by simp)) la rfl rfl
    refine ⟨Fg.cT rfl (by decide) fun ac w h => ?_, ?_⟩
    · have e13 : ac.tmps.getD 13 undef = nV b := h.dep 13 (by kernel_rfl)
      have e14 : ac.tmps.getD 14 undef = nV a := h.dep 14 (by kernel_rfl)
      refine ⟨40, #[nV b, nV a], wants_none rfl, Fg.run_call rfl rfl (by simp only [List.map_toArray, List.map_cons, List.map_nil, Act.eval, e13, e14]) (Fg.run_enter Tryz.func40 (by kernel_rfl) (by kernel_rfl)), ?_⟩
      exact (HC.out.1 w).mono fun _ _ ⟨he, hg⟩ => ⟨_, he, hg, rfl⟩
    refine ⟨Fg.cT rfl (by decide) fun ac w h => ?_, ?_⟩
    · have e12 : ac.tmps.getD 12 undef = nV Pp := h.dep 12 (by kernel_rfl)
      have e15 : ac.tmps.getD 15 undef = nV d := h.dep 15 (by kernel_rfl)
      refine ⟨40, #[nV Pp, nV d], wants_none rfl, Fg.run_call rfl rfl (by simp only [List.map_toArray, List.map_cons, List.map_nil, Act.eval, e12, e15]) (Fg.run_enter Tryz.func40 (by kernel_rfl) (by kernel_rfl)), ?_⟩
      exact (HC.out.2.1 w).mono fun _ _ ⟨he, hg⟩ => ⟨_, he, hg, rfl⟩
    trivial
  · intro aq wq hB hsz hdf hrest hslots hpt
    obtain ⟨u12, e12⟩ : ∃ u, aq.tmps.getD 12 undef = u := ⟨_, rfl⟩
    obtain ⟨u13, e13⟩ : ∃ u, aq.tmps.getD 13 undef = u := ⟨_, rfl⟩
    obtain ⟨u14, e14⟩ : ∃ u, aq.tmps.getD 14 undef = u := ⟨_, rfl⟩
    obtain ⟨u15, e15⟩ : ∃ u, aq.tmps.getD 15 undef = u := ⟨_, rfl⟩
    have e16 : aq.tmps.getD 16 undef = nV r := hslots 16 (by kernel_rfl)
    obtain rfl := Fg.frame_is (a := aq) (vs := [Value.agg (pL a).toArray, Value.agg (pL b).toArray, Value.pointer (some ⟨w0.heap.size, 0, none⟩), Value.pointer (some ⟨w0.heap.size + 1, 0, none⟩), Value.pointer (some ⟨w0.heap.size + 2, 0, none⟩), undef, undef, undef, undef, nV a, nV b, Value.bool true, u12, u13, u14, u15, nV r, undef, undef, undef, undef, undef, undef, undef, undef, undef, undef, undef, undef, undef, undef, undef, undef, undef, undef, undef, undef, undef, undef, undef]) hsz ⟨hrest 0 (by kernel_rfl), hrest 1 (by kernel_rfl), hrest 2 (by kernel_rfl), hrest 3 (by kernel_rfl), hrest 4 (by kernel_rfl), hrest 5 (by kernel_rfl), hrest 6 (by kernel_rfl), hrest 7 (by kernel_rfl), hrest 8 (by kernel_rfl), hrest 9 (by kernel_rfl), hrest 10 (by kernel_rfl), hrest 11 (by kernel_rfl), e12, e13, e14, e15, e16, hrest 17 (by kernel_rfl), hrest 18 (by kernel_rfl), hrest 19 (by kernel_rfl), hrest 20 (by kernel_rfl), hrest 21 (by kernel_rfl), hrest 22 (by kernel_rfl), hrest 23 (by kernel_rfl), hrest 24 (by kernel_rfl), hrest 25 (by kernel_rfl), hrest 26 (by kernel_rfl), hrest 27 (by kernel_rfl), hrest 28 (by kernel_rfl), hrest 29 (by kernel_rfl), hrest 30 (by kernel_rfl), hrest 31 (by kernel_rfl), hrest 32 (by kernel_rfl), hrest 33 (by kernel_rfl), hrest 34 (by kernel_rfl), hrest 35 (by kernel_rfl), hrest 36 (by kernel_rfl), hrest 37 (by kernel_rfl), hrest 38 (by kernel_rfl), hrest 39 (by kernel_rfl), trivial⟩ hdf
    clear hsz hdf hrest hslots hpt e12 e13 e14 e15 e16
    refine Fg.wpl_skip rfl rfl (st (l := r) rfl rfl rfl (H3.out.2.2.2.grown hB (by simp)) (by rw [pL_len]; rfl) (hrl) rfl) ?_
    refine wpList_nil ?_
    have hR := stored (l := r) (H3.out.2.2.2.grown hB (by simp)) (by rw [pL_len]; rfl) (hrl)
    have gR := gb_setCells_new (cs := pL r) (gb_trans H3.out.1 hB) (B := w0.heap.size + 2) (by omega) 0
    revert gR; revert hR
    generalize World.setCells _ _ _ _ = wR
    intro hR gR
    go_wp2_with fail
    exact bodyPost_ret (v := nV r) (res Tryz.results40 _ _ (w0.heap.size + 2) r rfl hR (hrl)) rfl ⟨by rw [HC.out.2.2], gR⟩
end Nr
end Go.Proofs.YtcmnecnbcohaeaaGreatDoor

/- The document's field: From. -/
namespace Go.Proofs.YtcmnecnbcohaeaaGreatDoor
open Go.RowKit Ns
namespace Nr
/-- what limbs stand for -/
def limbsV : List Nat → Nat
  | [] => 0
  | d :: r => d + 2251799813685248 * limbsV r
theorem and_low (x : Nat) (h : x < 18446744073709551616) : bits .and .u64 (x : Int) 4294967295 = ((x % 4294967296 : Nat) : Int) := by
  have e : (4294967295 : Int) = ((4294967295 : Nat) : Int) := rfl
  rw [e, u64_and_nat _ _ (by omega) (by decide), show (4294967295 : Nat) = 2 ^ 32 - 1 from rfl, Nat.and_two_pow_sub_one_eq_mod]
/-- amid the limbs -/
structure FromI (e : List Nat) (k : Nat) (l : List Nat) : Prop where
  len : l.length = 16
  val : V l = limbsV (e.take k)
  low : ∀ j, l.getD j 0 < 2 ^ 60
  rest : ∀ j, 3 * k ≤ j → l.getD j 0 = 0
theorem FromI.start (e : List Nat) : FromI e 0 zeros := ⟨rfl, by rw [V_zeros]; rfl, fun j => by rw [zeros_get]; decide, fun j _ => zeros_get j⟩
theorem limbsV_succ (e : List Nat) (k : Nat) (h : k < e.length) : limbsV (e.take (k + 1)) = limbsV (e.take k) + 2251799813685248 ^ k * e.getD k 0 := by
  induction e generalizing k with
  | nil => simp at h
  | cons d r ih =>
    cases k with
    | zero => simp [limbsV]
    | succ k =>
      have := ih k (by simpa using h)
      simp only [List.take_succ_cons, limbsV, List.getD_cons_succ, this, Nat.pow_succ]
      rw [Nat.mul_add, Nat.add_assoc, Nat.mul_comm (2251799813685248 ^ k) 2251799813685248, Nat.mul_assoc]
theorem limb_parts (n : Nat) : ∀ k : Fin 5, 65536 ^ (3 * k.1) * (n % 4294967296 * 2 ^ (3 * k.1)) + 65536 ^ (3 * k.1 + 2) * (n / 4294967296 * 2 ^ (3 * k.1)) = 2251799813685248 ^ k.1 * n
  | ⟨0, _⟩ => by show 65536 ^ 0 * (n % 4294967296 * 2 ^ 0) + 65536 ^ 2 * (n / 4294967296 * 2 ^ 0) = 2251799813685248 ^ 0 * n; omega
  | ⟨1, _⟩ => by show 65536 ^ 3 * (n % 4294967296 * 2 ^ 3) + 65536 ^ 5 * (n / 4294967296 * 2 ^ 3) = 2251799813685248 ^ 1 * n; omega
  | ⟨2, _⟩ => by show 65536 ^ 6 * (n % 4294967296 * 2 ^ 6) + 65536 ^ 8 * (n / 4294967296 * 2 ^ 6) = 2251799813685248 ^ 2 * n; omega
  | ⟨3, _⟩ => by show 65536 ^ 9 * (n % 4294967296 * 2 ^ 9) + 65536 ^ 11 * (n / 4294967296 * 2 ^ 9) = 2251799813685248 ^ 3 * n; omega
  | ⟨4, _⟩ => by show 65536 ^ 12 * (n % 4294967296 * 2 ^ 12) + 65536 ^ 14 * (n / 4294967296 * 2 ^ 12) = 2251799813685248 ^ 4 * n; omega
theorem FromI.next {e l : List Nat} {k : Nat} (h : FromI e k l) (hk : k < 5) (le : e.length = 5) (he : e.getD k 0 < 4503599627370496) :
    FromI e (k + 1) ((l.set (3 * k) (e.getD k 0 % 4294967296 * 2 ^ (3 * k))).set (3 * k + 2) (e.getD k 0 / 4294967296 * 2 ^ (3 * k))) := by
  have hl := h.len
  have h0 := h.rest (3 * k) (Nat.le_refl _)
  have h2 := h.rest (3 * k + 2) (by omega)
  have hp : (2 : Nat) ^ (3 * k) ≤ 2 ^ 12 := Nat.pow_le_pow_right (by decide) (by omega)
  have b1 : e.getD k 0 % 4294967296 * 2 ^ (3 * k) ≤ 4294967296 * 2 ^ 12 := Nat.mul_le_mul (by omega) hp
  have b2 : e.getD k 0 / 4294967296 * 2 ^ (3 * k) ≤ 1048576 * 2 ^ 12 := Nat.mul_le_mul (by omega) hp
  have hlp := limb_parts (e.getD k 0) ⟨k, hk⟩
  generalize e.getD k 0 % 4294967296 * 2 ^ (3 * k) = x at *
  generalize e.getD k 0 / 4294967296 * 2 ^ (3 * k) = y at *
  refine ⟨by simp [hl], ?_, fun j => ?_, fun j hj => ?_⟩
  · have e1 := V_set l (3 * k) x (by omega)
    have e2 := V_set (l.set (3 * k) x) (3 * k + 2) y (by rw [List.length_set]; omega)
    rw [set_getD _ _ _ _ (by omega), if_neg (by omega), h2, Nat.mul_zero, Nat.add_zero] at e2
    rw [h0, Nat.mul_zero, Nat.add_zero] at e1
    rw [e2, e1, h.val, limbsV_succ e k (by omega), ← hlp, Nat.add_assoc]
  · rw [set_getD _ _ _ _ (by rw [List.length_set]; omega), set_getD _ _ _ _ (by omega)]
    split
    · omega
    · split
      · omega
      · exact h.low j
  · rw [set_getD _ _ _ _ (by rw [List.length_set]; omega), if_neg (by omega), set_getD _ _ _ _ (by omega), if_neg (by omega)]
    exact h.rest j (by omega)
set_option maxRecDepth 100000 in
set_option maxHeartbeats 8000000 in
theorem from_any (e : List Nat) (w0 : World) (le : e.length = 5) (he : ∀ j, e.getD j 0 < 4503599627370496) : Calls Tryz.prog 30 #[.agg (pL e).toArray] w0 (Out (num (limbsV e)) w0) := by
  go_enter Tryz.func30, Tryz.ntmps30
  go_upto_region 2 with (fail)
  show Code.wp _ _ _ _ (((w0.alloc (.cells (pL e).toArray 26)).alloc (.cells (pL zeros).toArray 31)).alloc (.cells (pL zeros).toArray 31))
  have b1 := ((Blk.new w0 (pL e) 26).alloc (.cells (pL zeros).toArray 31)).alloc (.cells (pL zeros).toArray 31)
  have b2 := (new (w := w0.alloc (.cells (pL e).toArray 26)) (B := w0.heap.size + 1) (by simp) zeros).alloc (.cells (pL zeros).toArray 31)
  have b3 := new (w := (w0.alloc (.cells (pL e).toArray 26)).alloc (.cells (pL zeros).toArray 31)) (B := w0.heap.size + 2) (by simp) zeros
  have g4 := gb_alloc (gb_alloc (gb_alloc (gb_refl w0 none) (.cells (pL e).toArray 26)) (.cells (pL zeros).toArray 31)) (.cells (pL zeros).toArray 31)
  revert g4; revert b3; revert b2; revert b1
  generalize (((w0.alloc (.cells (pL e).toArray 26)).alloc (.cells (pL zeros).toArray 31)).alloc (.cells (pL zeros).toArray 31)) = w2
  intro b1 b2 b3 g4
  have H2 := Lib.hid (And.intro g4 (And.intro b1 (And.intro b2 b3))); clear g4 b1 b2 b3
  have HE := Lib.hid (And.intro le he); clear le he
  go_wp2
  go_loopw [4] (fun i wr => ∃ (k : Nat) (l : List Nat), k ≤ 5 ∧ i = .int .i64 k ∧ FromI e k l ∧ w0.grownBy wr none ∧ Blk wr w0.heap.size 26 (pL e) ∧ Blk wr (w0.heap.size + 1) 31 (pL zeros) ∧ Blk wr (w0.heap.size + 2) 31 (pL l)) (fun i _ => 5 - (intOf i).toNat)
  case atStart => exact ⟨0, zeros, by omega, rfl, FromI.start e, H2.out.1, H2.out.2.1, H2.out.2.2.1, H2.out.2.2.2⟩
  case round =>
    obtain ⟨k, l, hk, rfl, hs, hg, h1, h2, h3⟩ := hrel
    by_cases hlt : k < 5
    · have i0 : (k : Int) < 5 := by omega
      have hl := hs.len
      have c0 := h1.cell (pL_get e k (by have := HE.out.1; omega))
      have c1 := cell h3 (3 * k) (by omega)
      have c2 := cell h3 (3 * k + 2) (by omega)
      rw [hs.rest (3 * k) (Nat.le_refl _)] at c1
      rw [hs.rest (3 * k + 2) (by omega)] at c2
      have ve := HE.out.2 k
      have hn := hs.next hlt HE.out.1 ve
      have hbd := h3.grown (gb_drew (gb_refl wr none)) (by simp)
      have f1 := hbd.free (3 * k)
      have hm := and_low (e.getD k 0) (by omega)
      obtain ⟨n, hne⟩ : ∃ n, n = e.getD k 0 := ⟨_, rfl⟩
      have HNe := Lib.hid hne.symm
      have HZ := Lib.hid (hs.rest (3 * k + 2) (by omega))
      rw [← hne] at c0 ve hn hm
      clear hne
      have HI := Lib.hid (And.intro hn (And.intro hg (And.intro h1 (And.intro h2 h3)))); clear hn hs hg h1 h2 h3 hbd f1
      obtain rfl | rfl | rfl | rfl | rfl : k = 0 ∨ k = 1 ∨ k = 2 ∨ k = 3 ∨ k = 4 := by omega
      · obtain ⟨lo, hlo⟩ : ∃ lo, lo = n % 4294967296 * 1 := ⟨_, rfl⟩
        obtain ⟨hi, hhi⟩ : ∃ hi, hi = n / 4294967296 * 1 := ⟨_, rfl⟩
        have hloI : (n : Int) % 4294967296 = (lo : Int) := by omega
        have hhiI : (n : Int) / 4294967296 = (hi : Int) := by omega
        have hlob : lo < 18446744073709551616 := by omega
        have hhib : hi < 18446744073709551616 := by omega
        have hn : FromI e 1 ((l.set 0 lo).set 2 hi) := by rw [hlo, hhi]; exact HI.out.1
        have c1 : wr.cell? ⟨w0.heap.size + 2, 0, none⟩ = some (.int .u64 0) := c1
        have c2 : wr.cell? ⟨w0.heap.size + 2, 2, none⟩ = some (.int .u64 0) := c2
        have f1 := (HI.out.2.2.2.2.grown (gb_drew (gb_refl wr none)) (by simp)).free 0
        have HL := Lib.hid (And.intro hlo hhi); clear hlo hhi
        go_wp2
        go_region
        have q1 := HI.out.2.2.1.grown (gb_drew (gb_refl wr none)) (by simp)
        have q2 := HI.out.2.2.2.1.grown (gb_drew (gb_refl wr none)) (by simp)
        have q3 := HI.out.2.2.2.2.grown (gb_drew (gb_refl wr none)) (by simp)
        have qg := gb_drew HI.out.2.1
        obtain ⟨W1, hW1⟩ : ∃ W1, W1 = (wr.setCell ⟨w0.heap.size + 1 + 1, 0, none⟩ (.int .u64 (lo : Int))).drew := ⟨_, rfl⟩
        have p1 : Blk W1 w0.heap.size 26 (pL e) := hW1 ▸ q1.other (a := ⟨w0.heap.size + 2, 0, none⟩) (by show w0.heap.size + 2 ≠ w0.heap.size; omega) (.int .u64 (lo : Int))
        have p2 : Blk W1 (w0.heap.size + 1) 31 (pL zeros) := hW1 ▸ q2.other (a := ⟨w0.heap.size + 2, 0, none⟩) (by show w0.heap.size + 2 ≠ w0.heap.size + 1; omega) (.int .u64 (lo : Int))
        have p3 : Blk W1 (w0.heap.size + 2) 31 (pL (l.set 0 lo)) := hW1 ▸ set q3 0 lo
        have pg : w0.grownBy W1 none := hW1 ▸ gb_set_new qg (p := ⟨w0.heap.size + 2, 0, none⟩) (by show w0.heap.size ≤ w0.heap.size + 2; omega) (.int .u64 (lo : Int))
        have d2 : W1.cell? ⟨w0.heap.size + 2, 2, none⟩ = some (.int .u64 0) := by
          have := cell p3 2 (by rw [List.length_set]; omega)
          rw [set_getD _ _ _ _ (by omega), if_neg (by decide)] at this
          rw [this, HZ.out]
          rfl
        have d0 := p1.cell (pL_get e 0 (by have := HE.out.1; omega))
        rw [HNe.out] at d0
        have e2 := (p3.grown (gb_drew (gb_refl W1 none)) (by simp)).free 2
        rw [← hW1]
        have HP := Lib.hid (And.intro hn (And.intro pg (And.intro p1 (And.intro p2 p3)))); clear p1 p2 p3 pg q1 q2 q3 qg hn hW1 c1 c2 f1 c0
        go_wp2
        go_region
        have t1 := (HP.out.2.2.1.grown (gb_drew (gb_refl W1 none)) (by simp)).other (a := ⟨w0.heap.size + 2, 2, none⟩) (by show w0.heap.size + 2 ≠ w0.heap.size; omega) (.int .u64 (hi : Int))
        have t2 := (HP.out.2.2.2.1.grown (gb_drew (gb_refl W1 none)) (by simp)).other (a := ⟨w0.heap.size + 2, 2, none⟩) (by show w0.heap.size + 2 ≠ w0.heap.size + 1; omega) (.int .u64 (hi : Int))
        have t3 := set (HP.out.2.2.2.2.grown (gb_drew (gb_refl W1 none)) (by simp)) 2 hi
        have tg := gb_set_new (gb_drew HP.out.2.1) (p := ⟨w0.heap.size + 2, 2, none⟩) (by show w0.heap.size ≤ w0.heap.size + 2; omega) (.int .u64 (hi : Int))
        have HT := Lib.hid (And.intro tg (And.intro t1 (And.intro t2 t3))); clear tg t1 t2 t3
        go_wp2
        exact ⟨⟨1, _, by omega, by congr 1, HP.out.1, HT.out.1, HT.out.2.1, HT.out.2.2.1, HT.out.2.2.2⟩, by simp [intOf]⟩
      · obtain ⟨lo, hlo⟩ : ∃ lo, lo = n % 4294967296 * 8 := ⟨_, rfl⟩
        obtain ⟨hi, hhi⟩ : ∃ hi, hi = n / 4294967296 * 8 := ⟨_, rfl⟩
        have hloI : (n : Int) % 4294967296 * 8 = (lo : Int) := by omega
        have hhiI : (n : Int) / 4294967296 * 8 = (hi : Int) := by omega
        have hlob : lo < 18446744073709551616 := by omega
        have hhib : hi < 18446744073709551616 := by omega
        have hn : FromI e 2 ((l.set 3 lo).set 5 hi) := by rw [hlo, hhi]; exact HI.out.1
        have c1 : wr.cell? ⟨w0.heap.size + 2, 3, none⟩ = some (.int .u64 0) := c1
        have c2 : wr.cell? ⟨w0.heap.size + 2, 5, none⟩ = some (.int .u64 0) := c2
        have f1 := (HI.out.2.2.2.2.grown (gb_drew (gb_refl wr none)) (by simp)).free 3
        have HL := Lib.hid (And.intro hlo hhi); clear hlo hhi
        go_wp2
        go_region
        have q1 := HI.out.2.2.1.grown (gb_drew (gb_refl wr none)) (by simp)
        have q2 := HI.out.2.2.2.1.grown (gb_drew (gb_refl wr none)) (by simp)
        have q3 := HI.out.2.2.2.2.grown (gb_drew (gb_refl wr none)) (by simp)
        have qg := gb_drew HI.out.2.1
        obtain ⟨W1, hW1⟩ : ∃ W1, W1 = (wr.setCell ⟨w0.heap.size + 1 + 1, 3, none⟩ (.int .u64 (lo : Int))).drew := ⟨_, rfl⟩
        have p1 : Blk W1 w0.heap.size 26 (pL e) := hW1 ▸ q1.other (a := ⟨w0.heap.size + 2, 3, none⟩) (by show w0.heap.size + 2 ≠ w0.heap.size; omega) (.int .u64 (lo : Int))
        have p2 : Blk W1 (w0.heap.size + 1) 31 (pL zeros) := hW1 ▸ q2.other (a := ⟨w0.heap.size + 2, 3, none⟩) (by show w0.heap.size + 2 ≠ w0.heap.size + 1; omega) (.int .u64 (lo : Int))
        have p3 : Blk W1 (w0.heap.size + 2) 31 (pL (l.set 3 lo)) := hW1 ▸ set q3 3 lo
        have pg : w0.grownBy W1 none := hW1 ▸ gb_set_new qg (p := ⟨w0.heap.size + 2, 3, none⟩) (by show w0.heap.size ≤ w0.heap.size + 2; omega) (.int .u64 (lo : Int))
        have d2 : W1.cell? ⟨w0.heap.size + 2, 5, none⟩ = some (.int .u64 0) := by
          have := cell p3 5 (by rw [List.length_set]; omega)
          rw [set_getD _ _ _ _ (by omega), if_neg (by decide)] at this
          rw [this, HZ.out]
          rfl
        have d0 := p1.cell (pL_get e 1 (by have := HE.out.1; omega))
        rw [HNe.out] at d0
        have e2 := (p3.grown (gb_drew (gb_refl W1 none)) (by simp)).free 5
        rw [← hW1]
        have HP := Lib.hid (And.intro hn (And.intro pg (And.intro p1 (And.intro p2 p3)))); clear p1 p2 p3 pg q1 q2 q3 qg hn hW1 c1 c2 f1 c0
        go_wp2
        go_region
        have t1 := (HP.out.2.2.1.grown (gb_drew (gb_refl W1 none)) (by simp)).other (a := ⟨w0.heap.size + 2, 5, none⟩) (by show w0.heap.size + 2 ≠ w0.heap.size; omega) (.int .u64 (hi : Int))
        have t2 := (HP.out.2.2.2.1.grown (gb_drew (gb_refl W1 none)) (by simp)).other (a := ⟨w0.heap.size + 2, 5, none⟩) (by show w0.heap.size + 2 ≠ w0.heap.size + 1; omega) (.int .u64 (hi : Int))
        have t3 := set (HP.out.2.2.2.2.grown (gb_drew (gb_refl W1 none)) (by simp)) 5 hi
        have tg := gb_set_new (gb_drew HP.out.2.1) (p := ⟨w0.heap.size + 2, 5, none⟩) (by show w0.heap.size ≤ w0.heap.size + 2; omega) (.int .u64 (hi : Int))
        have HT := Lib.hid (And.intro tg (And.intro t1 (And.intro t2 t3))); clear tg t1 t2 t3
        go_wp2
        exact ⟨⟨2, _, by omega, by congr 1, HP.out.1, HT.out.1, HT.out.2.1, HT.out.2.2.1, HT.out.2.2.2⟩, by simp [intOf]⟩
      · obtain ⟨lo, hlo⟩ : ∃ lo, lo = n % 4294967296 * 64 := ⟨_, rfl⟩
        obtain ⟨hi, hhi⟩ : ∃ hi, hi = n / 4294967296 * 64 := ⟨_, rfl⟩
        have hloI : (n : Int) % 4294967296 * 64 = (lo : Int) := by omega
        have hhiI : (n : Int) / 4294967296 * 64 = (hi : Int) := by omega
        have hlob : lo < 18446744073709551616 := by omega
        have hhib : hi < 18446744073709551616 := by omega
        have hn : FromI e 3 ((l.set 6 lo).set 8 hi) := by rw [hlo, hhi]; exact HI.out.1
        have c1 : wr.cell? ⟨w0.heap.size + 2, 6, none⟩ = some (.int .u64 0) := c1
        have c2 : wr.cell? ⟨w0.heap.size + 2, 8, none⟩ = some (.int .u64 0) := c2
        have f1 := (HI.out.2.2.2.2.grown (gb_drew (gb_refl wr none)) (by simp)).free 6
        have HL := Lib.hid (And.intro hlo hhi); clear hlo hhi
        go_wp2
        go_region
        have q1 := HI.out.2.2.1.grown (gb_drew (gb_refl wr none)) (by simp)
        have q2 := HI.out.2.2.2.1.grown (gb_drew (gb_refl wr none)) (by simp)
        have q3 := HI.out.2.2.2.2.grown (gb_drew (gb_refl wr none)) (by simp)
        have qg := gb_drew HI.out.2.1
        obtain ⟨W1, hW1⟩ : ∃ W1, W1 = (wr.setCell ⟨w0.heap.size + 1 + 1, 6, none⟩ (.int .u64 (lo : Int))).drew := ⟨_, rfl⟩
        have p1 : Blk W1 w0.heap.size 26 (pL e) := hW1 ▸ q1.other (a := ⟨w0.heap.size + 2, 6, none⟩) (by show w0.heap.size + 2 ≠ w0.heap.size; omega) (.int .u64 (lo : Int))
        have p2 : Blk W1 (w0.heap.size + 1) 31 (pL zeros) := hW1 ▸ q2.other (a := ⟨w0.heap.size + 2, 6, none⟩) (by show w0.heap.size + 2 ≠ w0.heap.size + 1; omega) (.int .u64 (lo : Int))
        have p3 : Blk W1 (w0.heap.size + 2) 31 (pL (l.set 6 lo)) := hW1 ▸ set q3 6 lo
        have pg : w0.grownBy W1 none := hW1 ▸ gb_set_new qg (p := ⟨w0.heap.size + 2, 6, none⟩) (by show w0.heap.size ≤ w0.heap.size + 2; omega) (.int .u64 (lo : Int))
        have d2 : W1.cell? ⟨w0.heap.size + 2, 8, none⟩ = some (.int .u64 0) := by
          have := cell p3 8 (by rw [List.length_set]; omega)
          rw [set_getD _ _ _ _ (by omega), if_neg (by decide)] at this
          rw [this, HZ.out]
          rfl
        have d0 := p1.cell (pL_get e 2 (by have := HE.out.1; omega))
        rw [HNe.out] at d0
        have e2 := (p3.grown (gb_drew (gb_refl W1 none)) (by simp)).free 8
        rw [← hW1]
        have HP := Lib.hid (And.intro hn (And.intro pg (And.intro p1 (And.intro p2 p3)))); clear p1 p2 p3 pg q1 q2 q3 qg hn hW1 c1 c2 f1 c0
        go_wp2
        go_region
        have t1 := (HP.out.2.2.1.grown (gb_drew (gb_refl W1 none)) (by simp)).other (a := ⟨w0.heap.size + 2, 8, none⟩) (by show w0.heap.size + 2 ≠ w0.heap.size; omega) (.int .u64 (hi : Int))
        have t2 := (HP.out.2.2.2.1.grown (gb_drew (gb_refl W1 none)) (by simp)).other (a := ⟨w0.heap.size + 2, 8, none⟩) (by show w0.heap.size + 2 ≠ w0.heap.size + 1; omega) (.int .u64 (hi : Int))
        have t3 := set (HP.out.2.2.2.2.grown (gb_drew (gb_refl W1 none)) (by simp)) 8 hi
        have tg := gb_set_new (gb_drew HP.out.2.1) (p := ⟨w0.heap.size + 2, 8, none⟩) (by show w0.heap.size ≤ w0.heap.size + 2; omega) (.int .u64 (hi : Int))
        have HT := Lib.hid (And.intro tg (And.intro t1 (And.intro t2 t3))); clear tg t1 t2 t3
        go_wp2
        exact ⟨⟨3, _, by omega, by congr 1, HP.out.1, HT.out.1, HT.out.2.1, HT.out.2.2.1, HT.out.2.2.2⟩, by simp [intOf]⟩
      · obtain ⟨lo, hlo⟩ : ∃ lo, lo = n % 4294967296 * 512 := ⟨_, rfl⟩
        obtain ⟨hi, hhi⟩ : ∃ hi, hi = n / 4294967296 * 512 := ⟨_, rfl⟩
        have hloI : (n : Int) % 4294967296 * 512 = (lo : Int) := by omega
        have hhiI : (n : Int) / 4294967296 * 512 = (hi : Int) := by omega
        have hlob : lo < 18446744073709551616 := by omega
        have hhib : hi < 18446744073709551616 := by omega
        have hn : FromI e 4 ((l.set 9 lo).set 11 hi) := by rw [hlo, hhi]; exact HI.out.1
        have c1 : wr.cell? ⟨w0.heap.size + 2, 9, none⟩ = some (.int .u64 0) := c1
        have c2 : wr.cell? ⟨w0.heap.size + 2, 11, none⟩ = some (.int .u64 0) := c2
        have f1 := (HI.out.2.2.2.2.grown (gb_drew (gb_refl wr none)) (by simp)).free 9
        have HL := Lib.hid (And.intro hlo hhi); clear hlo hhi
        go_wp2
        go_region
        have q1 := HI.out.2.2.1.grown (gb_drew (gb_refl wr none)) (by simp)
        have q2 := HI.out.2.2.2.1.grown (gb_drew (gb_refl wr none)) (by simp)
        have q3 := HI.out.2.2.2.2.grown (gb_drew (gb_refl wr none)) (by simp)
        have qg := gb_drew HI.out.2.1
        obtain ⟨W1, hW1⟩ : ∃ W1, W1 = (wr.setCell ⟨w0.heap.size + 1 + 1, 9, none⟩ (.int .u64 (lo : Int))).drew := ⟨_, rfl⟩
        have p1 : Blk W1 w0.heap.size 26 (pL e) := hW1 ▸ q1.other (a := ⟨w0.heap.size + 2, 9, none⟩) (by show w0.heap.size + 2 ≠ w0.heap.size; omega) (.int .u64 (lo : Int))
        have p2 : Blk W1 (w0.heap.size + 1) 31 (pL zeros) := hW1 ▸ q2.other (a := ⟨w0.heap.size + 2, 9, none⟩) (by show w0.heap.size + 2 ≠ w0.heap.size + 1; omega) (.int .u64 (lo : Int))
        have p3 : Blk W1 (w0.heap.size + 2) 31 (pL (l.set 9 lo)) := hW1 ▸ set q3 9 lo
        have pg : w0.grownBy W1 none := hW1 ▸ gb_set_new qg (p := ⟨w0.heap.size + 2, 9, none⟩) (by show w0.heap.size ≤ w0.heap.size + 2; omega) (.int .u64 (lo : Int))
        have d2 : W1.cell? ⟨w0.heap.size + 2, 11, none⟩ = some (.int .u64 0) := by
          have := cell p3 11 (by rw [List.length_set]; omega)
          rw [set_getD _ _ _ _ (by omega), if_neg (by decide)] at this
          rw [this, HZ.out]
          rfl
        have d0 := p1.cell (pL_get e 3 (by have := HE.out.1; omega))
        rw [HNe.out] at d0
        have e2 := (p3.grown (gb_drew (gb_refl W1 none)) (by simp)).free 11
        rw [← hW1]
        have HP := Lib.hid (And.intro hn (And.intro pg (And.intro p1 (And.intro p2 p3)))); clear p1 p2 p3 pg q1 q2 q3 qg hn hW1 c1 c2 f1 c0
        go_wp2
        go_region
        have t1 := (HP.out.2.2.1.grown (gb_drew (gb_refl W1 none)) (by simp)).other (a := ⟨w0.heap.size + 2, 11, none⟩) (by show w0.heap.size + 2 ≠ w0.heap.size; omega) (.int .u64 (hi : Int))
        have t2 := (HP.out.2.2.2.1.grown (gb_drew (gb_refl W1 none)) (by simp)).other (a := ⟨w0.heap.size + 2, 11, none⟩) (by show w0.heap.size + 2 ≠ w0.heap.size + 1; omega) (.int .u64 (hi : Int))
        have t3 := set (HP.out.2.2.2.2.grown (gb_drew (gb_refl W1 none)) (by simp)) 11 hi
        have tg := gb_set_new (gb_drew HP.out.2.1) (p := ⟨w0.heap.size + 2, 11, none⟩) (by show w0.heap.size ≤ w0.heap.size + 2; omega) (.int .u64 (hi : Int))
        have HT := Lib.hid (And.intro tg (And.intro t1 (And.intro t2 t3))); clear tg t1 t2 t3
        go_wp2
        exact ⟨⟨4, _, by omega, by congr 1, HP.out.1, HT.out.1, HT.out.2.1, HT.out.2.2.1, HT.out.2.2.2⟩, by simp [intOf]⟩
      · obtain ⟨lo, hlo⟩ : ∃ lo, lo = n % 4294967296 * 4096 := ⟨_, rfl⟩
        obtain ⟨hi, hhi⟩ : ∃ hi, hi = n / 4294967296 * 4096 := ⟨_, rfl⟩
        have hloI : (n : Int) % 4294967296 * 4096 = (lo : Int) := by omega
        have hhiI : (n : Int) / 4294967296 * 4096 = (hi : Int) := by omega
        have hlob : lo < 18446744073709551616 := by omega
        have hhib : hi < 18446744073709551616 := by omega
        have hn : FromI e 5 ((l.set 12 lo).set 14 hi) := by rw [hlo, hhi]; exact HI.out.1
        have c1 : wr.cell? ⟨w0.heap.size + 2, 12, none⟩ = some (.int .u64 0) := c1
        have c2 : wr.cell? ⟨w0.heap.size + 2, 14, none⟩ = some (.int .u64 0) := c2
        have f1 := (HI.out.2.2.2.2.grown (gb_drew (gb_refl wr none)) (by simp)).free 12
        have HL := Lib.hid (And.intro hlo hhi); clear hlo hhi
        go_wp2
        go_region
        have q1 := HI.out.2.2.1.grown (gb_drew (gb_refl wr none)) (by simp)
        have q2 := HI.out.2.2.2.1.grown (gb_drew (gb_refl wr none)) (by simp)
        have q3 := HI.out.2.2.2.2.grown (gb_drew (gb_refl wr none)) (by simp)
        have qg := gb_drew HI.out.2.1
        obtain ⟨W1, hW1⟩ : ∃ W1, W1 = (wr.setCell ⟨w0.heap.size + 1 + 1, 12, none⟩ (.int .u64 (lo : Int))).drew := ⟨_, rfl⟩
        have p1 : Blk W1 w0.heap.size 26 (pL e) := hW1 ▸ q1.other (a := ⟨w0.heap.size + 2, 12, none⟩) (by show w0.heap.size + 2 ≠ w0.heap.size; omega) (.int .u64 (lo : Int))
        have p2 : Blk W1 (w0.heap.size + 1) 31 (pL zeros) := hW1 ▸ q2.other (a := ⟨w0.heap.size + 2, 12, none⟩) (by show w0.heap.size + 2 ≠ w0.heap.size + 1; omega) (.int .u64 (lo : Int))
        have p3 : Blk W1 (w0.heap.size + 2) 31 (pL (l.set 12 lo)) := hW1 ▸ set q3 12 lo
        have pg : w0.grownBy W1 none := hW1 ▸ gb_set_new qg (p := ⟨w0.heap.size + 2, 12, none⟩) (by show w0.heap.size ≤ w0.heap.size + 2; omega) (.int .u64 (lo : Int))
        have d2 : W1.cell? ⟨w0.heap.size + 2, 14, none⟩ = some (.int .u64 0) := by
          have := cell p3 14 (by rw [List.length_set]; omega)
          rw [set_getD _ _ _ _ (by omega), if_neg (by decide)] at this
          rw [this, HZ.out]
          rfl
        have d0 := p1.cell (pL_get e 4 (by have := HE.out.1; omega))
        rw [HNe.out] at d0
        have e2 := (p3.grown (gb_drew (gb_refl W1 none)) (by simp)).free 14
        rw [← hW1]
        have HP := Lib.hid (And.intro hn (And.intro pg (And.intro p1 (And.intro p2 p3)))); clear p1 p2 p3 pg q1 q2 q3 qg hn hW1 c1 c2 f1 c0
        go_wp2
        go_region
        have t1 := (HP.out.2.2.1.grown (gb_drew (gb_refl W1 none)) (by simp)).other (a := ⟨w0.heap.size + 2, 14, none⟩) (by show w0.heap.size + 2 ≠ w0.heap.size; omega) (.int .u64 (hi : Int))
        have t2 := (HP.out.2.2.2.1.grown (gb_drew (gb_refl W1 none)) (by simp)).other (a := ⟨w0.heap.size + 2, 14, none⟩) (by show w0.heap.size + 2 ≠ w0.heap.size + 1; omega) (.int .u64 (hi : Int))
        have t3 := set (HP.out.2.2.2.2.grown (gb_drew (gb_refl W1 none)) (by simp)) 14 hi
        have tg := gb_set_new (gb_drew HP.out.2.1) (p := ⟨w0.heap.size + 2, 14, none⟩) (by show w0.heap.size ≤ w0.heap.size + 2; omega) (.int .u64 (hi : Int))
        have HT := Lib.hid (And.intro tg (And.intro t1 (And.intro t2 t3))); clear tg t1 t2 t3
        go_wp2
        exact ⟨⟨5, _, by omega, by congr 1, HP.out.1, HT.out.1, HT.out.2.1, HT.out.2.2.1, HT.out.2.2.2⟩, by simp [intOf]⟩
    · obtain rfl : k = 5 := by omega
      have hl := hs.len
      have hv := hs.val
      rw [List.take_of_length_le (Nat.le_of_eq HE.out.1)] at hv
      have hlow := hs.low
      have zz := h3.lt
      clear hs
      go_upto_region 8 with (fail)
      refine wp_region_lit ?_
      refine Fg.wpl_value (v := nV (l)) (w' := wr) rfl (ld rfl rfl (h3) (hl) rfl rfl) ?_
      simp only [Act.put, List.setIfInBounds_toArray, List.set_cons_succ, List.set_cons_zero]
      refine Fg.wpl_call rfl (Fg.run_call (vs := #[nV (l)]) rfl rfl (by simp only [List.map_toArray, List.map_cons, List.map_nil, Act.eval]; rfl) (Fg.run_enter Tryz.func52 (by kernel_rfl) (by kernel_rfl))) ?_
      refine (whole_any l wr hl hlow).mono ?_
      rintro e wF ⟨rfl, gwF⟩
      refine ⟨_, rfl, ?_⟩
      simp only [Act.put, List.setIfInBounds_toArray, List.set_cons_succ, List.set_cons_zero]
      obtain ⟨rN, hrN⟩ : ∃ r : List Nat, r = num (V l) := ⟨_, rfl⟩
      have hrl : rN.length = 16 := by rw [hrN]; exact num_len _
      rw [← hrN]
      have HRN := Lib.hid hrN; clear hrN
      refine Fg.wpl_skip rfl rfl (st (l := rN) rfl rfl rfl ((h2).grown gwF (by simp)) (by rw [pL_len]; rfl) hrl rfl) ?_
      refine wpList_nil ?_
      have hR := stored (l := rN) ((h2).grown gwF (by simp)) (by rw [pL_len]; rfl) hrl
      have gR := gb_setCells_new (cs := pL rN) (gb_trans (hg) gwF) (B := w0.heap.size + 1) (by omega) 0
      revert gR; revert hR
      generalize World.setCells _ _ _ _ = wR
      intro hR gR
      go_wp2_with fail
      exact bodyPost_ret (v := nV rN) (res Tryz.results30 _ _ (w0.heap.size + 1) rN rfl hR hrl) rfl ⟨by rw [HRN.out, hv], gR⟩
end Nr
end Go.Proofs.YtcmnecnbcohaeaaGreatDoor
