/- The small functions of sha: what they answer, no memory. -/
import Derived.Test.YtabdegeaifajfaaGreatDoorProg
import Derived.Test.YtabdegeaifajfaaGreatDoorShaSpec
import Derived.WalkKit
import Derived.Lib.Hide
import Derived.WalkSpells
import Derived.WalkLawsBesides
namespace Go.Proofs.YtabdegeaifajfaaGreatDoor
open Go.RowKit

theorem neg_mask (n : Nat) (h1 : 1 ≤ n) (h2 : n ≤ 63) : bits .and .u64 (IntKind.u64.wrap (-(n : Int))) 63 = ((64 - n : Nat) : Int) := by
  have all : ∀ j : Fin 64, 1 ≤ j.val → bits .and .u64 (IntKind.u64.wrap (-(j.val : Int))) 63 = ((64 - j.val : Nat) : Int) := by decide +kernel
  exact all ⟨n, by omega⟩ h1

theorem ret64 {a b : Int} (h : a = b) : Ending.returned (.int .u64 a) = .returned (.int .u64 b) := by rw [h]

/-! ### the words' functions over Int -/
def rrI (x n : Int) : Int := ((Sha.rr x.toNat n.toNat : Nat) : Int)
def bs1I (x : Int) : Int := ((Sha.bs1 x.toNat : Nat) : Int)
def bs0I (x : Int) : Int := ((Sha.bs0 x.toNat : Nat) : Int)
def ss1I (x : Int) : Int := ((Sha.ss1 x.toNat : Nat) : Int)
def ss0I (x : Int) : Int := ((Sha.ss0 x.toNat : Nat) : Int)
def chI (x y z : Int) : Int := ((Sha.ch x.toNat y.toNat z.toNat : Nat) : Int)
def mjI (x y z : Int) : Int := ((Sha.mj x.toNat y.toNat z.toNat : Nat) : Int)

theorem rr_lt (x n : Nat) (h : x < 18446744073709551616) : Sha.rr x n < 18446744073709551616 := by
  unfold Sha.rr
  have a : x <<< (64 - n) % 18446744073709551616 < 2 ^ 64 := Nat.mod_lt _ (by decide)
  have b : x >>> n < 2 ^ 64 := by rw [Nat.shiftRight_eq_div_pow]; exact Nat.lt_of_le_of_lt (Nat.div_le_self _ _) h
  exact Nat.or_lt_two_pow a b
theorem xor_lt64 {x y : Nat} (a : x < 18446744073709551616) (b : y < 18446744073709551616) : x ^^^ y < 18446744073709551616 := Nat.xor_lt_two_pow (n := 64) a b
theorem and_lt64 {x y : Nat} (b : y < 18446744073709551616) : x &&& y < 18446744073709551616 := Nat.and_lt_two_pow (n := 64) x b
theorem shr_lt64 {x : Nat} (n : Nat) (h : x < 18446744073709551616) : x >>> n < 18446744073709551616 := by
  rw [Nat.shiftRight_eq_div_pow]; exact Nat.lt_of_le_of_lt (Nat.div_le_self _ _) h
theorem bs1_lt (x : Nat) (h : x < 18446744073709551616) : Sha.bs1 x < 18446744073709551616 := xor_lt64 (xor_lt64 (rr_lt _ _ h) (rr_lt _ _ h)) (rr_lt _ _ h)
theorem bs0_lt (x : Nat) (h : x < 18446744073709551616) : Sha.bs0 x < 18446744073709551616 := xor_lt64 (xor_lt64 (rr_lt _ _ h) (rr_lt _ _ h)) (rr_lt _ _ h)
theorem ss1_lt (x : Nat) (h : x < 18446744073709551616) : Sha.ss1 x < 18446744073709551616 := xor_lt64 (xor_lt64 (rr_lt _ _ h) (rr_lt _ _ h)) (shr_lt64 _ h)
theorem ss0_lt (x : Nat) (h : x < 18446744073709551616) : Sha.ss0 x < 18446744073709551616 := xor_lt64 (xor_lt64 (rr_lt _ _ h) (rr_lt _ _ h)) (shr_lt64 _ h)
theorem ch_lt (x y z : Nat) (hy : y < 18446744073709551616) (hz : z < 18446744073709551616) : Sha.ch x y z < 18446744073709551616 := xor_lt64 (and_lt64 hy) (and_lt64 hz)
theorem mj_lt (x y z : Nat) (hy : y < 18446744073709551616) (hz : z < 18446744073709551616) : Sha.mj x y z < 18446744073709551616 := xor_lt64 (xor_lt64 (and_lt64 hy) (and_lt64 hz)) (and_lt64 hz)

theorem rr_is (x n m : Nat) (hx : x < 18446744073709551616) (hm : m = 64 - n) (hn : n ≤ 64) :
    bits .or .u64 (IntKind.u64.wrap ((x : Int) * 2 ^ m)) ((x : Int) / 2 ^ (64 - m)) = ((Sha.rr x n : Nat) : Int) := by
  have e : 64 - m = n := by omega
  have a : IntKind.u64.wrap ((x : Int) * 2 ^ m) = ((x <<< m % 18446744073709551616 : Nat) : Int) := by
    rw [IntKind.wrap_u64, Nat.shiftLeft_eq, Int.natCast_emod, Int.natCast_mul, Int.natCast_pow]; rfl
  have b : (x : Int) / 2 ^ n = ((x >>> n : Nat) : Int) := by
    rw [Nat.shiftRight_eq_div_pow, Int.natCast_ediv, Int.natCast_pow]; rfl
  rw [e, a, b, u64_or_nat _ _ (Nat.mod_lt _ (by decide)) (shr_lt64 _ hx), hm]
  rfl
theorem xor3 (a b c : Nat) (ha : a < 18446744073709551616) (hb : b < 18446744073709551616) (hc : c < 18446744073709551616) :
    bits .xor .u64 (bits .xor .u64 (a : Int) (b : Int)) (c : Int) = ((a ^^^ b ^^^ c : Nat) : Int) := by
  rw [u64_xor_nat _ _ ha hb, u64_xor_nat _ _ (xor_lt64 ha hb) hc]

set_option maxHeartbeats 400000 in
theorem right_any (x n : Int) (w : World) (h0 : 0 ≤ x) (h1 : x < 18446744073709551616) (hn1 : 1 ≤ n) (hn2 : n ≤ 63) :
    Calls Tryz.prog 171 #[.int .u64 x, .int .i64 n] w fun e w' => e = .returned (.int .u64 (rrI x n)) ∧ w = w' := by
  obtain ⟨n, rfl⟩ := Int.eq_ofNat_of_zero_le (show 0 ≤ n by omega)
  obtain ⟨x, rfl⟩ := Int.eq_ofNat_of_zero_le h0
  have hn1' : 1 ≤ n := by omega
  have hn2' : n ≤ 63 := by omega
  have hx' : x < 18446744073709551616 := by omega
  have e1 := neg_mask n hn1' hn2'
  obtain ⟨m, hm⟩ : ∃ m : Nat, m = 64 - n := ⟨_, rfl⟩
  rw [← hm] at e1
  have hm1 : 1 ≤ m := by omega
  have hm2 : m ≤ 63 := by omega
  have Hf := Lib.hid (rr_is x n m hx' hm (by omega)); clear hm
  go_enter Tryz.func171, Tryz.ntmps171
  go_wp2
  go_ret
  refine ⟨ret64 ?_, rfl⟩
  exact Hf.out

set_option maxHeartbeats 400000 in
theorem bigOne_any (x : Int) (w : World) (h0 : 0 ≤ x) (h1 : x < 18446744073709551616) :
    Calls Tryz.prog 155 #[.int .u64 x] w fun e w' => e = .returned (.int .u64 (bs1I x)) ∧ w = w' := by
  have Hf := Lib.hid (xor3 (Sha.rr x.toNat 14) (Sha.rr x.toNat 18) (Sha.rr x.toNat 41) (rr_lt _ _ (by omega)) (rr_lt _ _ (by omega)) (rr_lt _ _ (by omega)))
  go_enter Tryz.func155, Tryz.ntmps155
  go_wp2_with (go_at_call 171; refine (right_any _ _ _ h0 h1 (by decide) (by decide)).mono ?_; rintro e w' ⟨rfl, rfl⟩)
  go_ret
  exact ⟨ret64 Hf.out, rfl⟩
set_option maxHeartbeats 400000 in
theorem bigZero_any (x : Int) (w : World) (h0 : 0 ≤ x) (h1 : x < 18446744073709551616) :
    Calls Tryz.prog 157 #[.int .u64 x] w fun e w' => e = .returned (.int .u64 (bs0I x)) ∧ w = w' := by
  have Hf := Lib.hid (xor3 (Sha.rr x.toNat 28) (Sha.rr x.toNat 34) (Sha.rr x.toNat 39) (rr_lt _ _ (by omega)) (rr_lt _ _ (by omega)) (rr_lt _ _ (by omega)))
  go_enter Tryz.func157, Tryz.ntmps157
  go_wp2_with (go_at_call 171; refine (right_any _ _ _ h0 h1 (by decide) (by decide)).mono ?_; rintro e w' ⟨rfl, rfl⟩)
  go_ret
  exact ⟨ret64 Hf.out, rfl⟩
theorem shrI (x : Int) (n : Nat) (h0 : 0 ≤ x) : x / 2 ^ n = ((x.toNat >>> n : Nat) : Int) := by
  obtain ⟨x, rfl⟩ := Int.eq_ofNat_of_zero_le h0
  rw [Nat.shiftRight_eq_div_pow, Int.natCast_ediv, Int.natCast_pow]; rfl
set_option maxHeartbeats 400000 in
theorem smallOne_any (x : Int) (w : World) (h0 : 0 ≤ x) (h1 : x < 18446744073709551616) :
    Calls Tryz.prog 169 #[.int .u64 x] w fun e w' => e = .returned (.int .u64 (ss1I x)) ∧ w = w' := by
  have Hf := Lib.hid (xor3 (Sha.rr x.toNat 19) (Sha.rr x.toNat 61) (x.toNat >>> 6) (rr_lt _ _ (by omega)) (rr_lt _ _ (by omega)) (shr_lt64 _ (by omega)))
  have Hs := Lib.hid (shrI x 6 h0)
  go_enter Tryz.func169, Tryz.ntmps169
  go_wp2_with (go_at_call 171; refine (right_any _ _ _ h0 h1 (by decide) (by decide)).mono ?_; rintro e w' ⟨rfl, rfl⟩)
  go_ret
  refine ⟨ret64 ?_, rfl⟩
  refine Eq.trans ?_ Hf.out
  rw [← Hs.out]; rfl
set_option maxHeartbeats 400000 in
theorem smallZero_any (x : Int) (w : World) (h0 : 0 ≤ x) (h1 : x < 18446744073709551616) :
    Calls Tryz.prog 170 #[.int .u64 x] w fun e w' => e = .returned (.int .u64 (ss0I x)) ∧ w = w' := by
  have Hf := Lib.hid (xor3 (Sha.rr x.toNat 1) (Sha.rr x.toNat 8) (x.toNat >>> 7) (rr_lt _ _ (by omega)) (rr_lt _ _ (by omega)) (shr_lt64 _ (by omega)))
  have Hs := Lib.hid (shrI x 7 h0)
  go_enter Tryz.func170, Tryz.ntmps170
  go_wp2_with (go_at_call 171; refine (right_any _ _ _ h0 h1 (by decide) (by decide)).mono ?_; rintro e w' ⟨rfl, rfl⟩)
  go_ret
  refine ⟨ret64 ?_, rfl⟩
  refine Eq.trans ?_ Hf.out
  rw [← Hs.out]; rfl
theorem not64 (x : Nat) (h : x < 18446744073709551616) : bits .xor .u64 IntKind.u64.max (x : Int) = ((18446744073709551615 - x : Nat) : Int) := by
  have e : IntKind.u64.max = ((18446744073709551615 : Nat) : Int) := by decide
  rw [e, u64_xor_nat _ _ (by decide) h]
  have : 18446744073709551615 ^^^ x = 18446744073709551615 - x := by
    have h2 : x < 2 ^ 64 := h
    apply Nat.eq_of_testBit_eq
    intro i
    rw [Nat.testBit_xor, show 18446744073709551615 - x = 2 ^ 64 - (x + 1) from by omega, Nat.testBit_two_pow_sub_succ h2, show 18446744073709551615 = 2 ^ 64 - 1 from rfl, Nat.testBit_two_pow_sub_one]
    by_cases hi : i < 64
    · simp [hi]
    · simp only [hi, decide_false, Bool.false_and, Bool.false_bne]
      exact Nat.testBit_lt_two_pow (Nat.lt_of_lt_of_le h2 (Nat.pow_le_pow_right (by decide) (by omega)))
  rw [this]
theorem ch_is (x y z : Int) (h0 : 0 ≤ x) (h1 : x < 18446744073709551616) (k0 : 0 ≤ y) (k1 : y < 18446744073709551616) (l0 : 0 ≤ z) (l1 : z < 18446744073709551616) :
    bits .xor .u64 (bits .and .u64 x y) (bits .and .u64 (bits .xor .u64 IntKind.u64.max x) z) = chI x y z := by
  obtain ⟨x, rfl⟩ := Int.eq_ofNat_of_zero_le h0
  obtain ⟨y, rfl⟩ := Int.eq_ofNat_of_zero_le k0
  obtain ⟨z, rfl⟩ := Int.eq_ofNat_of_zero_le l0
  rw [not64 _ (by omega), u64_and_nat _ _ (by omega) (by omega), u64_and_nat _ _ (by omega) (by omega), u64_xor_nat _ _ (and_lt64 (by omega)) (and_lt64 (by omega))]
  rfl
theorem mj_is (x y z : Int) (h0 : 0 ≤ x) (h1 : x < 18446744073709551616) (k0 : 0 ≤ y) (k1 : y < 18446744073709551616) (l0 : 0 ≤ z) (l1 : z < 18446744073709551616) :
    bits .xor .u64 (bits .xor .u64 (bits .and .u64 x y) (bits .and .u64 x z)) (bits .and .u64 y z) = mjI x y z := by
  obtain ⟨x, rfl⟩ := Int.eq_ofNat_of_zero_le h0
  obtain ⟨y, rfl⟩ := Int.eq_ofNat_of_zero_le k0
  obtain ⟨z, rfl⟩ := Int.eq_ofNat_of_zero_le l0
  rw [u64_and_nat _ _ (by omega) (by omega), u64_and_nat _ _ (by omega) (by omega), u64_and_nat _ _ (by omega) (by omega), xor3 _ _ _ (and_lt64 (by omega)) (and_lt64 (by omega)) (and_lt64 (by omega))]
  rfl
set_option maxHeartbeats 400000 in
theorem choose_any (x y z : Int) (w : World) (h0 : 0 ≤ x) (h1 : x < 18446744073709551616) (k0 : 0 ≤ y) (k1 : y < 18446744073709551616) (l0 : 0 ≤ z) (l1 : z < 18446744073709551616) :
    Calls Tryz.prog 156 #[.int .u64 x, .int .u64 y, .int .u64 z] w fun e w' => e = .returned (.int .u64 (chI x y z)) ∧ w = w' := by
  have Hf := Lib.hid (ch_is x y z h0 h1 k0 k1 l0 l1)
  go_enter Tryz.func156, Tryz.ntmps156
  go_wp2
  go_ret
  exact ⟨ret64 Hf.out, rfl⟩
set_option maxHeartbeats 400000 in
theorem majority_any (x y z : Int) (w : World) (h0 : 0 ≤ x) (h1 : x < 18446744073709551616) (k0 : 0 ≤ y) (k1 : y < 18446744073709551616) (l0 : 0 ≤ z) (l1 : z < 18446744073709551616) :
    Calls Tryz.prog 158 #[.int .u64 x, .int .u64 y, .int .u64 z] w fun e w' => e = .returned (.int .u64 (mjI x y z)) ∧ w = w' := by
  have Hf := Lib.hid (mj_is x y z h0 h1 k0 k1 l0 l1)
  go_enter Tryz.func158, Tryz.ntmps158
  go_wp2
  go_ret
  exact ⟨ret64 Hf.out, rfl⟩
theorem i_bd (n : Nat) (h : n < 18446744073709551616) : 0 ≤ (n : Int) ∧ (n : Int) < 18446744073709551616 := by omega
theorem bs1I_bd (x : Int) (h0 : 0 ≤ x) (h1 : x < 18446744073709551616) : 0 ≤ bs1I x ∧ bs1I x < 18446744073709551616 := i_bd _ (bs1_lt _ (by omega))
theorem bs0I_bd (x : Int) (h0 : 0 ≤ x) (h1 : x < 18446744073709551616) : 0 ≤ bs0I x ∧ bs0I x < 18446744073709551616 := i_bd _ (bs0_lt _ (by omega))
theorem ss1I_bd (x : Int) (h0 : 0 ≤ x) (h1 : x < 18446744073709551616) : 0 ≤ ss1I x ∧ ss1I x < 18446744073709551616 := i_bd _ (ss1_lt _ (by omega))
theorem ss0I_bd (x : Int) (h0 : 0 ≤ x) (h1 : x < 18446744073709551616) : 0 ≤ ss0I x ∧ ss0I x < 18446744073709551616 := i_bd _ (ss0_lt _ (by omega))
theorem chI_bd (x y z : Int) (k0 : 0 ≤ y) (k1 : y < 18446744073709551616) (l0 : 0 ≤ z) (l1 : z < 18446744073709551616) : 0 ≤ chI x y z ∧ chI x y z < 18446744073709551616 := i_bd _ (ch_lt _ _ _ (by omega) (by omega))
theorem mjI_bd (x y z : Int) (k0 : 0 ≤ y) (k1 : y < 18446744073709551616) (l0 : 0 ≤ z) (l1 : z < 18446744073709551616) : 0 ≤ mjI x y z ∧ mjI x y z < 18446744073709551616 := i_bd _ (mj_lt _ _ _ (by omega) (by omega))
end Go.Proofs.YtabdegeaifajfaaGreatDoor
