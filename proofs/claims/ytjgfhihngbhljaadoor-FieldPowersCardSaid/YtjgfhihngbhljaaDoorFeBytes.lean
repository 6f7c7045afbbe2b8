/- field: words and bytes. -/
import Derived.Test.YtjgfhihngbhljaaDoorFeLeast
namespace Go.Proofs.YtjgfhihngbhljaaDoor
open Go.RowKit

def bytV (x : Int) (i : Nat) : Value := .int .u8 (x / 2 ^ (8 * i) % 256)
set_option maxHeartbeats 400000 in
theorem putWord_any (B off n c : Nat) (T : TypeId) (L : List Value) (x : Int) (w : World) (hn : 8 ≤ n) (hL : off + 8 ≤ L.length) (hb : Blk w B T L) :
    Calls Tryd.prog 46 #[.slice (some ⟨B, off, none⟩) n c, .int .u64 x] w fun e w' => e = .returned (.tuple #[]) ∧ w.grownBy w' (some B) ∧ Blk w' B T (putN L off (bytV x) 8) := by
  go_enter Tryd.func46, Tryd.ntmps46
  go_wp2
  go_loopw [5] (fun i wr => ∃ k : Nat, k ≤ 8 ∧ i = .int .i64 k ∧ w.grownBy wr (some B) ∧ Blk wr B T (putN L off (bytV x) k)) (fun i _ => 8 - (intOf i).toNat)
  case atStart => exact ⟨0, by omega, rfl, gb_refl _ _, hb⟩
  case round =>
    obtain ⟨k, hk, rfl, hg, hB⟩ := hrel
    by_cases hlt : k < 8
    · have hi : (k : Int) < (n : Int) := by omega
      have hs : 0 ≤ 8 * (k : Int) := by omega
      have hs2 : 8 * (k : Int) < 64 := by omega
      have hfr := hB.free (off + k)
      obtain ⟨v0, hv0⟩ : ∃ v, wr.cell? ⟨B, off + k, none⟩ = some v := ⟨_, hB.cell (List.getElem?_eq_getElem (by rw [putN_length]; omega))⟩
      go_wp2
      go_roundw
      case rel => exact ⟨k + 1, by omega, by go_num, gb_set hg _ _, hB.set _ _⟩
      case measure => simp [intOf]; omega
    · obtain rfl : k = 8 := by omega
      go_wp2
      go_end0
      exact ⟨rfl, hg, hB⟩

/-- the number of the first k bytes, the lowest first -/
def wordOf (f : Nat → Int) : Nat → Int
  | 0 => 0
  | k + 1 => wordOf f k + f k * 2 ^ (8 * k)
theorem two_pow_le {a b : Nat} (h : a ≤ b) : (2 : Int) ^ a ≤ 2 ^ b := by
  have h1 := Int.ofNat_le.2 (Nat.pow_le_pow_right (n := 2) (by decide) h)
  simpa [Int.natCast_pow] using h1
theorem wordOf_bd (f : Nat → Int) (hf : ∀ i, 0 ≤ f i ∧ f i < 256) (k : Nat) : 0 ≤ wordOf f k ∧ wordOf f k < 2 ^ (8 * k) := by
  induction k with
  | zero => simp [wordOf]
  | succ k ih =>
    have h := hf k
    have e : (2 : Int) ^ (8 * (k + 1)) = 256 * 2 ^ (8 * k) := by rw [show 8 * (k + 1) = 8 * k + 8 by omega, Int.pow_add]; omega
    rw [wordOf, e]
    generalize (2 : Int) ^ (8 * k) = p at *
    have h1 : f k * p ≤ 255 * p := Int.mul_le_mul_of_nonneg_right (by omega) (by omega)
    have h2 : 0 ≤ f k * p := Int.mul_nonneg h.1 (by omega)
    omega
theorem or_add (a b : Int) (s : Nat) (h0 : 0 ≤ a) (h1 : a < 2 ^ s) (h2 : a < 18446744073709551616) (k0 : 0 ≤ b) (k1 : b * 2 ^ s < 18446744073709551616) : bits .or .u64 a (b * 2 ^ s) = a + b * 2 ^ s := by
  obtain ⟨a, rfl⟩ := Int.eq_ofNat_of_zero_le h0
  obtain ⟨b, rfl⟩ := Int.eq_ofNat_of_zero_le k0
  have e : (b : Int) * 2 ^ s = ((2 ^ s * b : Nat) : Int) := by rw [Int.natCast_mul, Int.natCast_pow, Int.mul_comm]; rfl
  have ha : a < 2 ^ s := by
    have : ((2 ^ s : Nat) : Int) = (2 : Int) ^ s := by rw [Int.natCast_pow]; rfl
    omega
  rw [e] at k1 ⊢
  rw [u64_or_nat _ _ (by omega) (by omega), Nat.or_comm, ← Nat.two_pow_add_eq_or_of_lt ha]
  omega
set_option maxHeartbeats 400000 in
theorem getWord_any (B off n c : Nat) (f : Nat → Int) (w : World) (hn : 8 ≤ n) (hf : ∀ i, 0 ≤ f i ∧ f i < 256) (hc : ∀ i, i < 8 → w.cell? ⟨B, off + i, none⟩ = some (.int .u8 (f i))) :
    Calls Tryd.prog 56 #[.slice (some ⟨B, off, none⟩) n c] w fun e w' => e = .returned (.int .u64 (wordOf f 8)) ∧ w = w' := by
  go_enter Tryd.func56, Tryd.ntmps56
  go_wp2
  go_loop [3, 5] (fun v i => ∃ k : Nat, k ≤ 8 ∧ i = .int .i64 k ∧ v = .int .u64 (wordOf f k)) (fun _ i => 8 - (intOf i).toNat)
  case atStart => exact ⟨0, by omega, rfl, rfl⟩
  case round =>
    obtain ⟨k, hk, rfl, rfl⟩ := hrel
    by_cases hlt : k < 8
    · have hi : (k : Int) < (n : Int) := by omega
      have hs : 0 ≤ 8 * (k : Int) := by omega
      have hs2 : 8 * (k : Int) < 64 := by omega
      have c0 := hc k hlt
      have b0 := (hf k).1
      have b1 := (hf k).2
      have Hw : Hid (bits .or .u64 (wordOf f k) (IntKind.u64.wrap (f k * 2 ^ (8 * k))) = wordOf f (k + 1)) := by
        apply Lib.hid
        have hb := wordOf_bd f hf k
        have hb1 := wordOf_bd f hf (k + 1)
        have hp : (2 : Int) ^ (8 * (k + 1)) ≤ 2 ^ 64 := two_pow_le (by omega)
        have hp2 : (2 : Int) ^ (8 * k) ≤ 2 ^ 64 := two_pow_le (by omega)
        have h64 : (2 : Int) ^ 64 = 18446744073709551616 := by decide
        have hm : 0 ≤ f k * 2 ^ (8 * k) := Int.mul_nonneg b0 (by omega)
        rw [wordOf] at hb1
        rw [wrapw, Fe.w64_in hm (by omega), wordOf]
        exact or_add _ _ _ hb.1 hb.2 (by omega) b0 (by omega)
      go_wp2
      go_round
      case rel => exact ⟨k + 1, by omega, by go_num, by rw [Hw.out]⟩
      case measure => simp [intOf]; omega
    · obtain rfl : k = 8 := by omega
      go_wp2
      go_ret
      exact ⟨rfl, rfl⟩

theorem or_lem (a b : Int) (s : Nat) (p q : Int) (hp : (2 : Int) ^ s = p) (hq : p * q = 18446744073709551616) (h0 : 0 ≤ a) (h1 : a < p) (hq0 : 0 < q) : bits .or .u64 a (IntKind.u64.wrap (b * p)) = a + (b % q) * p := by
  have hp0 : 0 < p := by omega
  have hpp : p ≤ 18446744073709551616 := by
    have : p * 1 ≤ p * q := Int.mul_le_mul_of_nonneg_left (by omega) (by omega)
    omega
  have e : IntKind.u64.wrap (b * p) = (b % q) * 2 ^ s := by
    rw [wrapw, hp]
    unfold Fe.w64
    rw [← hq, Int.mul_comm b p, Int.mul_comm (b % q) p, Int.mul_emod_mul_of_pos _ _ hp0]
  have hb0 : 0 ≤ b % q := Int.emod_nonneg _ (by omega)
  have hb1 : b % q < q := Int.emod_lt_of_pos _ hq0
  have hb2 : (b % q) * p < 18446744073709551616 := by
    have h : (b % q) * p ≤ (q - 1) * p := Int.mul_le_mul_of_nonneg_right (by omega) (by omega)
    have e2 : (q - 1) * p = 18446744073709551616 - p := by rw [Int.sub_mul, Int.mul_comm q p, hq, Int.one_mul]
    omega
  rw [e, or_add a _ s h0 (by rw [hp]; exact h1) (by omega) hb0 (by rw [hp]; exact hb2), hp]
def bytesV (x : Int) : List Value := (List.range 32).map (bytV x)
theorem bytV_word (x : Int) (k i : Nat) (h : i < 8) : bytV (x / 2 ^ (64 * k) % 18446744073709551616) i = bytV x (8 * k + i) := by
  unfold bytV
  have e : x / 2 ^ (8 * (8 * k + i)) = x / 2 ^ (64 * k) / 2 ^ (8 * i) := by
    rw [show 8 * (8 * k + i) = 64 * k + 8 * i by omega, Int.pow_add, Int.ediv_ediv_of_nonneg (Int.le_of_lt (Int.pow_pos (by decide)))]
  rw [e]
  generalize x / 2 ^ (64 * k) = y
  congr 1
  obtain rfl | rfl | rfl | rfl | rfl | rfl | rfl | rfl : i = 0 ∨ i = 1 ∨ i = 2 ∨ i = 3 ∨ i = 4 ∨ i = 5 ∨ i = 6 ∨ i = 7 := by omega
  all_goals simp only [Nat.mul_zero, Nat.mul_one, Int.reducePow, Nat.reduceMul]; omega
def zeros32 : List Value := List.replicate 32 (.int .u8 0)
theorem bytes_laid (x : Int) : putN (putN (putN (putN zeros32 0 (bytV (x / 2 ^ (64 * 0) % 18446744073709551616)) 8) 8 (bytV (x / 2 ^ (64 * 1) % 18446744073709551616)) 8) 16 (bytV (x / 2 ^ (64 * 2) % 18446744073709551616)) 8) 24 (bytV (x / 2 ^ (64 * 3) % 18446744073709551616)) 8 = bytesV x := by
  apply List.ext_getElem?
  intro i
  have l0 : zeros32.length = 32 := rfl
  rw [putN_get _ _ _ _ _ (by simp only [putN_length, l0]; omega), putN_get _ _ _ _ _ (by simp only [putN_length, l0]; omega), putN_get _ _ _ _ _ (by simp only [putN_length, l0]; omega), putN_get _ _ _ _ _ (by rw [l0]; omega)]
  by_cases h : i < 32
  · have e : (bytesV x)[i]? = some (bytV x i) := by unfold bytesV; rw [List.getElem?_map, List.getElem?_range h]; rfl
    rw [e]
    by_cases h3 : 24 ≤ i
    · rw [if_pos (by omega), bytV_word x 3 (i - 24) (by omega), show 8 * 3 + (i - 24) = i by omega]
    · rw [if_neg (by omega)]
      by_cases h2 : 16 ≤ i
      · rw [if_pos (by omega), bytV_word x 2 (i - 16) (by omega), show 8 * 2 + (i - 16) = i by omega]
      · rw [if_neg (by omega)]
        by_cases h1 : 8 ≤ i
        · rw [if_pos (by omega), bytV_word x 1 (i - 8) (by omega), show 8 * 1 + (i - 8) = i by omega]
        · rw [if_neg (by omega), if_pos (by omega), bytV_word x 0 (i - 0) (by omega), show 8 * 0 + (i - 0) = i by omega]
  · rw [if_neg (by omega), if_neg (by omega), if_neg (by omega), if_neg (by omega), List.getElem?_eq_none (by rw [l0]; omega), List.getElem?_eq_none (by simp [bytesV]; omega)]
theorem m_bd (a : Fe) : 0 ≤ (Fe.m a : Int) ∧ (Fe.m a : Int) < 57896044618658097711785492504343953926634992332820282019728792003956564819949 := by
  have := Fe.m_lt a
  unfold Fe.P at this
  omega
theorem least_words (a : Fe) :
    (Fe.leastF a).x0 + (Fe.leastF a).x1 % 8192 * 2251799813685248 = (Fe.m a : Int) / 2 ^ (64 * 0) % 18446744073709551616 ∧
    (Fe.leastF a).x1 / 8192 + (Fe.leastF a).x2 % 67108864 * 274877906944 = (Fe.m a : Int) / 2 ^ (64 * 1) % 18446744073709551616 ∧
    (Fe.leastF a).x2 / 67108864 + (Fe.leastF a).x3 % 549755813888 * 33554432 = (Fe.m a : Int) / 2 ^ (64 * 2) % 18446744073709551616 ∧
    (Fe.leastF a).x3 / 549755813888 + (Fe.leastF a).x4 % 4503599627370496 * 4096 = (Fe.m a : Int) / 2 ^ (64 * 3) % 18446744073709551616 := by
  have hl := m_bd a
  unfold Fe.leastF
  generalize (Fe.m a : Int) = x at *
  have e2 : x / 5070602400912917605986812821504 = x / 2251799813685248 / 2251799813685248 := by rw [Int.ediv_ediv_of_nonneg (by decide)]; rfl
  have e3 : x / 11417981541647679048466287755595961091061972992 = x / 2251799813685248 / 2251799813685248 / 2251799813685248 := by rw [Int.ediv_ediv_of_nonneg (by decide), Int.ediv_ediv_of_nonneg (by decide)]; rfl
  have e4 : x / 25711008708143844408671393477458601640355247900524685364822016 = x / 2251799813685248 / 2251799813685248 / 2251799813685248 / 2251799813685248 := by rw [Int.ediv_ediv_of_nonneg (by decide), Int.ediv_ediv_of_nonneg (by decide), Int.ediv_ediv_of_nonneg (by decide)]; rfl
  rw [e2, e3, e4]
  have p1 : (2 : Int) ^ (64 * 1) = 18446744073709551616 := by decide
  have p2 : (2 : Int) ^ (64 * 2) = 340282366920938463463374607431768211456 := by decide
  have p3 : (2 : Int) ^ (64 * 3) = 6277101735386680763835789423207666416102355444464034512896 := by decide
  rw [p1, p2, p3]
  obtain ⟨d0, q1, b0, b0', f0⟩ : ∃ d q : Int, 0 ≤ d ∧ d < 2251799813685248 ∧ x = 2251799813685248 * q + d := ⟨x % 2251799813685248, x / 2251799813685248, by omega, by omega, by omega⟩
  obtain ⟨d1, q2, b1, b1', f1⟩ : ∃ d q : Int, 0 ≤ d ∧ d < 2251799813685248 ∧ q1 = 2251799813685248 * q + d := ⟨q1 % 2251799813685248, q1 / 2251799813685248, by omega, by omega, by omega⟩
  obtain ⟨d2, q3, b2, b2', f2⟩ : ∃ d q : Int, 0 ≤ d ∧ d < 2251799813685248 ∧ q2 = 2251799813685248 * q + d := ⟨q2 % 2251799813685248, q2 / 2251799813685248, by omega, by omega, by omega⟩
  obtain ⟨d3, q4, b3, b3', f3⟩ : ∃ d q : Int, 0 ≤ d ∧ d < 2251799813685248 ∧ q3 = 2251799813685248 * q + d := ⟨q3 % 2251799813685248, q3 / 2251799813685248, by omega, by omega, by omega⟩
  have g1 : x / 2251799813685248 = q1 := by omega
  have g2 : q1 / 2251799813685248 = q2 := by omega
  have g3 : q2 / 2251799813685248 = q3 := by omega
  have g4 : q3 / 2251799813685248 = q4 := by omega
  have m0 : x % 2251799813685248 = d0 := by omega
  have m1 : q1 % 2251799813685248 = d1 := by omega
  have m2 : q2 % 2251799813685248 = d2 := by omega
  have m3 : q3 % 2251799813685248 = d3 := by omega
  simp only [g1, g2, g3, g4, m0, m1, m2, m3]
  have b4 : 0 ≤ q4 := by omega
  have b4' : q4 < 2251799813685248 := by omega
  have m4 : q4 % 2251799813685248 = q4 := by omega
  rw [m4]
  have w1 : x / 18446744073709551616 = d1 / 8192 + 274877906944 * q2 := by omega
  have w2 : x / 340282366920938463463374607431768211456 = d2 / 67108864 + 33554432 * q3 := by omega
  have w3 : x / 6277101735386680763835789423207666416102355444464034512896 = d3 / 549755813888 + 4096 * q4 := by omega
  rw [w1, w2, w3]
  refine ⟨?_, ?_, ?_, ?_⟩ <;> omega
end Go.Proofs.YtjgfhihngbhljaaDoor
