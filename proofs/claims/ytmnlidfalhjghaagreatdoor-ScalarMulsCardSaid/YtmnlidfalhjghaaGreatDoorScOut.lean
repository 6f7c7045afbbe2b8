/- scalar: bytes that are told, as slices; numbers of bytes. -/
import Derived.Test.YtmnlidfalhjghaaGreatDoorScModulo
import Derived.Test.YtmnlidfalhjghaaGreatDoorScBytes
import Derived.Test.YtmnlidfalhjghaaGreatDoorScMul
namespace Go.Proofs.YtmnlidfalhjghaaGreatDoor
open Go.RowKit Ow
theorem own_blk {w : World} {base e n g : Nat} {xs : List Value} (h : w.ownsRow base e 1 (.slice (some ⟨g, 0, none⟩) n n) n xs) : Blk w g e xs ∧ base ≤ g := by
  rcases h.2 with ⟨h0, _⟩ | ⟨g', cap, cur, e1, hb, hg, _, _, hs, ht⟩
  · cases h0
  · cases e1
    refine ⟨?_, hb⟩
    have : cur.toList = xs := by rw [← ht, List.take_of_length_le]; rw [Array.length_toList]; omega
    unfold Blk
    rw [hg, ← this, Array.toArray_toList]
/-- bytes that lie in a new block, as a slice -/
def OutB (l : List Nat) (w : World) (e : Ending) (w' : World) : Prop := ∃ g, e = .returned (.slice (some ⟨g, 0, none⟩) l.length l.length) ∧ w.grownBy w' none ∧ w.heap.size ≤ g ∧ Blk w' g 5 (l.map u8N)
/-- the scalar of a number -/
def scB (n : Nat) : List Nat := bytesN (n % Sc.L) 32
theorem scB_length (n : Nat) : (scB n).length = 32 := bytesN_length _ _
theorem scB_lt (n i : Nat) : (scB n).getD i 0 < 256 := bytesN_lt _ _ _
theorem scB_num (n : Nat) : num (scB n) = n % Sc.L := by
  unfold scB
  rw [num_bytesN]
  exact Nat.mod_eq_of_lt (Sc.lt256 _ (Sc.mod_lt n))
theorem num_lt (l : List Nat) (hl : ∀ i, l.getD i 0 < 256) : num l < 2 ^ (8 * l.length) := Sc.leN_lt _ hl _
theorem div_top (n j k : Nat) (h : n < 2 ^ j) (hk : j ≤ k) : n / 2 ^ k = 0 := Nat.div_eq_of_lt (Nat.lt_of_lt_of_le h (Nat.pow_le_pow_right (by decide) hk))
theorem num_top (l : List Nat) (hl : ∀ i, l.getD i 0 < 256) (h : l.length ≤ 64) : num l / 2 ^ (64 * 8) = 0 := by
  have h2 := div_top (num l) (8 * l.length) (64 * 8) (num_lt l hl) (by omega)
  exact h2
theorem num_256 (l : List Nat) (hl : ∀ i, l.getD i 0 < 256) (h : l.length ≤ 32) : num l < 2 ^ 256 :=
  Nat.lt_of_lt_of_le (num_lt l hl) (Nat.pow_le_pow_right (by decide) (by omega))
def zeros12 : List Value := [.int .u64 0, .int .u64 0, .int .u64 0, .int .u64 0, .int .u64 0, .int .u64 0, .int .u64 0, .int .u64 0, .int .u64 0, .int .u64 0, .int .u64 0, .int .u64 0]
theorem out_of {n : Nat} {w w1 w2 : World} {g : Nat} (hg : w.grownBy w1 none) (hg2 : w1.grownBy w2 none) (ho : w2.ownsRow w1.heap.size 5 1 (.slice (some ⟨g, 0, none⟩) 32 32) 32 ((bytesN n 32).map u8N)) :
    ∀ m, n = m % Sc.L → OutB (scB m) w (.returned (.slice (some ⟨g, 0, none⟩) 32 32)) w2 := by
  rintro m rfl
  obtain ⟨hb, hge⟩ := own_blk ho
  exact ⟨g, by rw [scB_length], gb_trans hg hg2, Nat.le_trans hg.size hge, hb⟩
end Go.Proofs.YtmnlidfalhjghaaGreatDoor
