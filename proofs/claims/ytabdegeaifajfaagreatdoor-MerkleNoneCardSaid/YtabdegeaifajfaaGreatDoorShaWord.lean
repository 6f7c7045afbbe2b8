/- sha: words out of bytes, bytes out of words. -/
import Derived.Test.YtabdegeaifajfaaGreatDoorShaBits
import Derived.Test.YtabdegeaifajfaaGreatDoorShaMem
import Derived.BigQuiet
import Derived.Deep.QuietTactic
namespace Go.Proofs.YtabdegeaifajfaaGreatDoor
open Go.RowKit

def wordI (x0 x1 x2 x3 x4 x5 x6 x7 : Int) : Int := ((Sha.word x0.toNat x1.toNat x2.toNat x3.toNat x4.toNat x5.toNat x6.toNat x7.toNat : Nat) : Int)
theorem or_lt64 {x y : Nat} (a : x < 18446744073709551616) (b : y < 18446744073709551616) : x ||| y < 18446744073709551616 := Nat.or_lt_two_pow (n := 64) a b
theorem shl_lt (x k : Nat) (h : x < 256) (hk : k ≤ 56) : x <<< k < 18446744073709551616 := by
  rw [Nat.shiftLeft_eq]
  calc x * 2 ^ k < 256 * 2 ^ k := Nat.mul_lt_mul_of_pos_right h (Nat.two_pow_pos k)
    _ ≤ 256 * 2 ^ 56 := Nat.mul_le_mul_left _ (Nat.pow_le_pow_right (by decide) hk)
    _ = 18446744073709551616 := by decide
theorem word_lt (x0 x1 x2 x3 x4 x5 x6 x7 : Nat) (g0 : x0 < 256) (g1 : x1 < 256) (g2 : x2 < 256) (g3 : x3 < 256) (g4 : x4 < 256) (g5 : x5 < 256) (g6 : x6 < 256) (g7 : x7 < 256) :
    Sha.word x0 x1 x2 x3 x4 x5 x6 x7 < 18446744073709551616 := by
  unfold Sha.word
  exact or_lt64 (or_lt64 (or_lt64 (or_lt64 (or_lt64 (or_lt64 (or_lt64 (shl_lt _ _ g0 (by decide)) (shl_lt _ _ g1 (by decide))) (shl_lt _ _ g2 (by decide))) (shl_lt _ _ g3 (by decide))) (shl_lt _ _ g4 (by decide))) (shl_lt _ _ g5 (by decide))) (shl_lt _ _ g6 (by decide))) (by omega)
theorem shlI (x k : Nat) : ((x <<< k : Nat) : Int) = (x : Int) * ((2 ^ k : Nat) : Int) := by rw [Nat.shiftLeft_eq, Int.natCast_mul]
theorem shl56 (x : Nat) : (x : Int) * (72057594037927936 : Int) = ((x <<< 56 : Nat) : Int) := by rw [shlI, show ((2 ^ 56 : Nat) : Int) = 72057594037927936 from by decide]
theorem shl48 (x : Nat) : (x : Int) * (281474976710656 : Int) = ((x <<< 48 : Nat) : Int) := by rw [shlI, show ((2 ^ 48 : Nat) : Int) = 281474976710656 from by decide]
theorem shl40 (x : Nat) : (x : Int) * (1099511627776 : Int) = ((x <<< 40 : Nat) : Int) := by rw [shlI, show ((2 ^ 40 : Nat) : Int) = 1099511627776 from by decide]
theorem shl32 (x : Nat) : (x : Int) * (4294967296 : Int) = ((x <<< 32 : Nat) : Int) := by rw [shlI, show ((2 ^ 32 : Nat) : Int) = 4294967296 from by decide]
theorem shl24 (x : Nat) : (x : Int) * (16777216 : Int) = ((x <<< 24 : Nat) : Int) := by rw [shlI, show ((2 ^ 24 : Nat) : Int) = 16777216 from by decide]
theorem shl16 (x : Nat) : (x : Int) * (65536 : Int) = ((x <<< 16 : Nat) : Int) := by rw [shlI, show ((2 ^ 16 : Nat) : Int) = 65536 from by decide]
theorem shl8 (x : Nat) : (x : Int) * (256 : Int) = ((x <<< 8 : Nat) : Int) := by rw [shlI, show ((2 ^ 8 : Nat) : Int) = 256 from by decide]
theorem word_is (x0 x1 x2 x3 x4 x5 x6 x7 : Int) (g0 : 0 ≤ x0) (g0' : x0 < 256) (g1 : 0 ≤ x1) (g1' : x1 < 256) (g2 : 0 ≤ x2) (g2' : x2 < 256) (g3 : 0 ≤ x3) (g3' : x3 < 256)
    (g4 : 0 ≤ x4) (g4' : x4 < 256) (g5 : 0 ≤ x5) (g5' : x5 < 256) (g6 : 0 ≤ x6) (g6' : x6 < 256) (g7 : 0 ≤ x7) (g7' : x7 < 256) :
    bits .or .u64 (bits .or .u64 (bits .or .u64 (bits .or .u64 (bits .or .u64 (bits .or .u64 (bits .or .u64 (x0 * 72057594037927936) (x1 * 281474976710656)) (x2 * 1099511627776)) (x3 * 4294967296)) (x4 * 16777216)) (x5 * 65536)) (x6 * 256)) x7
      = wordI x0 x1 x2 x3 x4 x5 x6 x7 := by
  obtain ⟨x0, rfl⟩ := Int.eq_ofNat_of_zero_le g0
  obtain ⟨x1, rfl⟩ := Int.eq_ofNat_of_zero_le g1
  obtain ⟨x2, rfl⟩ := Int.eq_ofNat_of_zero_le g2
  obtain ⟨x3, rfl⟩ := Int.eq_ofNat_of_zero_le g3
  obtain ⟨x4, rfl⟩ := Int.eq_ofNat_of_zero_le g4
  obtain ⟨x5, rfl⟩ := Int.eq_ofNat_of_zero_le g5
  obtain ⟨x6, rfl⟩ := Int.eq_ofNat_of_zero_le g6
  obtain ⟨x7, rfl⟩ := Int.eq_ofNat_of_zero_le g7
  have k0 : x0 < 256 := by omega
  have k1 : x1 < 256 := by omega
  have k2 : x2 < 256 := by omega
  have k3 : x3 < 256 := by omega
  have k4 : x4 < 256 := by omega
  have k5 : x5 < 256 := by omega
  have k6 : x6 < 256 := by omega
  rw [shl56, shl48, shl40, shl32, shl24, shl16, shl8]
  have l0 := shl_lt x0 56 k0 (by decide)
  have l1 := shl_lt x1 48 k1 (by decide)
  have l2 := shl_lt x2 40 k2 (by decide)
  have l3 := shl_lt x3 32 k3 (by decide)
  have l4 := shl_lt x4 24 k4 (by decide)
  have l5 := shl_lt x5 16 k5 (by decide)
  have l6 := shl_lt x6 8 k6 (by decide)
  rw [u64_or_nat _ _ l0 l1, u64_or_nat _ _ (or_lt64 l0 l1) l2, u64_or_nat _ _ (or_lt64 (or_lt64 l0 l1) l2) l3, u64_or_nat _ _ (or_lt64 (or_lt64 (or_lt64 l0 l1) l2) l3) l4,
    u64_or_nat _ _ (or_lt64 (or_lt64 (or_lt64 (or_lt64 l0 l1) l2) l3) l4) l5, u64_or_nat _ _ (or_lt64 (or_lt64 (or_lt64 (or_lt64 (or_lt64 l0 l1) l2) l3) l4) l5) l6,
    u64_or_nat _ _ (or_lt64 (or_lt64 (or_lt64 (or_lt64 (or_lt64 (or_lt64 l0 l1) l2) l3) l4) l5) l6) (by omega)]
  rfl

set_option maxHeartbeats 400000 in
theorem shaGetWord_any (b off n c : Nat) (x0 x1 x2 x3 x4 x5 x6 x7 : Int) (w : World) (hn : 8 ≤ n)
    (g0 : 0 ≤ x0) (g0' : x0 < 256) (g1 : 0 ≤ x1) (g1' : x1 < 256) (g2 : 0 ≤ x2) (g2' : x2 < 256) (g3 : 0 ≤ x3) (g3' : x3 < 256)
    (g4 : 0 ≤ x4) (g4' : x4 < 256) (g5 : 0 ≤ x5) (g5' : x5 < 256) (g6 : 0 ≤ x6) (g6' : x6 < 256) (g7 : 0 ≤ x7) (g7' : x7 < 256)
    (c0 : w.cell? ⟨b, off, none⟩ = some (.int .u8 x0)) (c1 : w.cell? ⟨b, off + 1, none⟩ = some (.int .u8 x1)) (c2 : w.cell? ⟨b, off + 2, none⟩ = some (.int .u8 x2)) (c3 : w.cell? ⟨b, off + 3, none⟩ = some (.int .u8 x3))
    (c4 : w.cell? ⟨b, off + 4, none⟩ = some (.int .u8 x4)) (c5 : w.cell? ⟨b, off + 5, none⟩ = some (.int .u8 x5)) (c6 : w.cell? ⟨b, off + 6, none⟩ = some (.int .u8 x6)) (c7 : w.cell? ⟨b, off + 7, none⟩ = some (.int .u8 x7)) :
    Calls Tryz.prog 168 #[.slice (some ⟨b, off, none⟩) n c] w fun e w' => e = .returned (.int .u64 (wordI x0 x1 x2 x3 x4 x5 x6 x7)) ∧ ∃ k, w' = w.drewN k := by
  have i0 : (0 : Int) < (n : Int) := by omega
  have i1 : (1 : Int) < (n : Int) := by omega
  have i2 : (2 : Int) < (n : Int) := by omega
  have i3 : (3 : Int) < (n : Int) := by omega
  have i4 : (4 : Int) < (n : Int) := by omega
  have i5 : (5 : Int) < (n : Int) := by omega
  have i6 : (6 : Int) < (n : Int) := by omega
  have i7 : (7 : Int) < (n : Int) := by omega
  have Hf := Lib.hid (word_is x0 x1 x2 x3 x4 x5 x6 x7 g0 g0' g1 g1' g2 g2' g3 g3' g4 g4' g5 g5' g6 g6' g7 g7')
  go_enter Tryz.func168, Tryz.ntmps168
  go_wp2
  go_quiet (fail)
  go_wp2
  go_ret
  exact ⟨ret64 Hf.out, _, rfl⟩

def byteI (x : Int) (i : Nat) : Int := ((Sha.byte x.toNat i : Nat) : Int)
def byteV (x : Int) (i : Nat) : Value := .int .u8 (byteI x i)
theorem byte_is (x : Int) (k : Nat) (h0 : 0 ≤ x) : x / 2 ^ (56 - 8 * k) % 256 = byteI x k := by
  obtain ⟨x, rfl⟩ := Int.eq_ofNat_of_zero_le h0
  unfold byteI Sha.byte
  rw [Nat.shiftRight_eq_div_pow, Int.natCast_emod, Int.natCast_ediv, Int.natCast_pow]; rfl
set_option maxHeartbeats 400000 in
theorem shaPutWord_any (B T off n c : Nat) (L : List Value) (x : Int) (w : World) (hn : 8 ≤ n) (h0 : 0 ≤ x) (hL : off + 8 ≤ L.length) (hb : Blk w B T L) :
    Calls Tryz.prog 140 #[.slice (some ⟨B, off, none⟩) n c, .int .u64 x] w fun e w' => e = .returned (.tuple #[]) ∧ w.grownBy w' (some B) ∧ Blk w' B T (putN L off (byteV x) 8) := by
  go_enter Tryz.func140, Tryz.ntmps140
  go_wp2
  go_loopw [5] (fun i wr => ∃ k : Nat, k ≤ 8 ∧ i = .int .i64 k ∧ w.grownBy wr (some B) ∧ Blk wr B T (putN L off (byteV x) k)) (fun i _ => 8 - (intOf i).toNat)
  case atStart => exact ⟨0, by omega, rfl, gb_refl _ _, hb⟩
  case round =>
    obtain ⟨k, hk, rfl, hg, hB⟩ := hrel
    by_cases hlt : k < 8
    · have hi : (k : Int) < (n : Int) := by omega
      have hs : 0 ≤ 56 - 8 * (k : Int) := by omega
      have hfr := hB.free (off + k)
      obtain ⟨v0, hv0⟩ : ∃ v, wr.cell? ⟨B, off + k, none⟩ = some v := ⟨_, hB.cell (List.getElem?_eq_getElem (by rw [putN_length]; omega))⟩
      have Hb := Lib.hid (byte_is x k h0)
      go_wp2
      rw [Hb.out]
      go_roundw
      case rel => exact ⟨k + 1, by omega, by go_num, gb_set hg _ _, hB.set _ _⟩
      case measure => simp [intOf]; omega
    · obtain rfl : k = 8 := by omega
      go_wp2
      go_end0
      exact ⟨rfl, hg, hB⟩
end Go.Proofs.YtabdegeaifajfaaGreatDoor
