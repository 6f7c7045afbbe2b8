/- A word out of eight bytes, byte by byte. -/
import Derived.Test.YtabdegeaifajfaaGreatDoorShaSpec
namespace Go.Proofs.YtabdegeaifajfaaGreatDoor

def horner (l : List Nat) (i : Nat) : Nat → Nat
  | 0 => 0
  | j + 1 => horner l i j * 256 + l.getD (i + j) 0
theorem horner_lt (l : List Nat) (i : Nat) (h : ∀ i, l.getD i 0 < 256) (j : Nat) : horner l i j < 256 ^ j := by
  induction j with
  | zero => simp [horner]
  | succ j ih =>
    have := h (i + j)
    unfold horner
    rw [Nat.pow_succ]
    omega
theorem or_step (a b s : Nat) (hb : b < 256) : (a <<< (s + 8)) ||| (b <<< s) = (a * 256 + b) <<< s := by
  have e : a * 256 + b = a <<< 8 ||| b := by
    rw [← Nat.shiftLeft_add_eq_or_of_lt (show b < 2 ^ 8 from hb), Nat.shiftLeft_eq]
  rw [e, Nat.shiftLeft_or_distrib, ← Nat.shiftLeft_add, Nat.add_comm 8 s]
theorem horner_word (l : List Nat) (i : Nat) (h : ∀ i, l.getD i 0 < 256) : horner l i 8 = Sha.wordAt l i := by
  have s0 : horner l i 1 = l.getD i 0 := by simp [horner]
  have st : ∀ j s, (horner l i j <<< (s + 8)) ||| (l.getD (i + j) 0 <<< s) = horner l i (j + 1) <<< s := fun j s => by rw [or_step _ _ _ (h _)]; rfl
  unfold Sha.wordAt Sha.word
  rw [← s0, st 1 48, st 2 40, st 3 32, st 4 24, st 5 16, st 6 8]
  have := st 7 0
  rw [Nat.shiftLeft_zero, Nat.shiftLeft_zero] at this
  exact this.symm
end Go.Proofs.YtabdegeaifajfaaGreatDoor
