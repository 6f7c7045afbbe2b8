/- shard: the bits of a digest, the highest of each byte first. -/
import Derived.Test.YtpihmhabcmheaaaDoorOwn
namespace Go.Proofs.YtpihmhabcmheaaaDoor
open Go.RowKit Ow
/-- a bit -/
def bitA (l : List Nat) (i : Nat) : Nat := l.getD (i / 8) 0 / 2 ^ (7 - i % 8) % 2
theorem bitA_lt (l : List Nat) (i : Nat) : bitA l i < 2 := Nat.mod_lt _ (by decide)
/-- the first bits from a place on -/
def bitsF (l : List Nat) (a k : Nat) : List Nat := (List.range k).map fun p => bitA l (a + p)
theorem bitsF_succ (l : List Nat) (a k : Nat) : bitsF l a (k + 1) = bitsF l a k ++ [bitA l (a + k)] := by simp [bitsF, List.range_succ]
theorem bitsF_len (l : List Nat) (a k : Nat) : (bitsF l a k).length = k := by simp [bitsF]
/-- the shard of a digest -/
def shardN (l : List Nat) : Nat := 2 * bitA l 0 + bitA l 1
/-- signs -/
def signsL (b : List Nat) : List Nat := b.map (48 + ·)
def wayL (l : List Nat) : List Nat := signsL (bitsF l 2 510)
theorem signsL_snoc (b : List Nat) (x : Nat) : signsL (b ++ [x]) = signsL b ++ [48 + x] := by simp [signsL]
theorem signsL_len (b : List Nat) : (signsL b).length = b.length := by simp [signsL]
theorem wayL_len (l : List Nat) : (wayL l).length = 510 := by rw [wayL, signsL_len, bitsF_len]
theorem wayL_get (l : List Nat) (i : Nat) (h : i < 510) : (wayL l).getD i 0 = 48 + bitA l (i + 2) := by
  unfold wayL signsL bitsF
  rw [List.map_map, List.getD_eq_getElem?_getD, List.getElem?_map, List.getElem?_range h]
  show 48 + bitA l (2 + i) = _
  rw [Nat.add_comm 2 i]
/-- a bit, as what is told of it -/
abbrev Bt := { x : Nat // x < 2 }
def btE (x : Bt) : Array Value := #[.int .u8 (x.1 : Int)]
def bitsV (l : List Nat) (a k : Nat) : List Bt := (List.range k).map fun p => ⟨bitA l (a + p), bitA_lt l _⟩
theorem bitsV_succ (l : List Nat) (a k : Nat) : bitsV l a (k + 1) = bitsV l a k ++ [⟨bitA l (a + k), bitA_lt l _⟩] := by simp [bitsV, List.range_succ]
theorem bitsV_len (l : List Nat) (a k : Nat) : (bitsV l a k).length = k := by simp [bitsV]
theorem bitsV_val (l : List Nat) (a k : Nat) : (bitsV l a k).map (·.1) = bitsF l a k := by simp [bitsV, bitsF]
theorem and_one' : ∀ v : Fin 256, bits .and .u8 ((v.val : Nat) : Int) 1 = ((v.val % 2 : Nat) : Int) := by decide +kernel
/-- a bit of a byte, as it is reckoned -/
theorem bit_at (x k : Nat) (h : x < 256) : bits .and .u8 ((x : Int) / 2 ^ k) 1 = ((x / 2 ^ k % 2 : Nat) : Int) := by
  have h2 : x / 2 ^ k < 256 := Nat.lt_of_le_of_lt (Nat.div_le_self _ _) h
  have := and_one' ⟨x / 2 ^ k, h2⟩
  rw [← this]
  simp
end Go.Proofs.YtpihmhabcmheaaaDoor
