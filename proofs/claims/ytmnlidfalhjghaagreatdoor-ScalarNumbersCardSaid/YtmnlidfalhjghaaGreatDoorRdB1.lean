/- texts merged, part 1: XFeMul64 XScSpec XShaMem XScWord XScOff XOwn XScFill XScBytes XScRefM XScDown XScModulo XScMulM XScMul XScOut XScLoad XScReduce XScIs XScRight XScMulAdd XScPub XScBits XScBitsAll XSame XMake XScLawKit XScRef XPart XAppendG XScRefRest XScRefMul XScAwake XLent XFlow -/
import Derived.Shelf.Bits.Mul64
import Derived.Shelf.Spec.BitsCarry
import Derived.Test.YtmnlidfalhjghaaGreatDoorProg
import Derived.Lib.Hide
import Derived.WalkKit
import Derived.WalkSmall
import Derived.Laws.Rows
import Derived.Laws.Tables
import Derived.WalkSpells
import Derived.WalkLawsBesides
import Derived.Outline
import Derived.BigQuiet
import Derived.Deep.QuietTactic
import Derived.BigRegion
import Derived.RegionTactic
import Derived.Deep.RegionWith
import Derived.Laws.AppendOwn
import Derived.Laws.OwnMore
import Derived.RangeFuncNested
import Derived.RangeFuncBound
import Derived.RangeFuncCalls
import Derived.RangeFuncLeaves
import Derived.RangeFuncBox
import Derived.Shelf.Abstract
import Derived.Shelf.RegionOpen
import Derived.OwnWalkIn
import Derived.TacticsInMore
import Derived.LoopNIn
import Derived.LoopIn
import Derived.Laws.CopyOwn
import Derived.IntWalk
import Derived.ChangeKeysEq
import Derived.BigGuardPart
import Derived.Orders
/- math/bits.Mul64 and Add64 at this dump (the first by the shelf's contract, laid in plain words by lay-plain.mjs; the second by the model's entry), over integers. -/
namespace Go.Proofs.YtmnlidfalhjghaaGreatDoor
open Go.Shelf
def lays264_ren : Go.Shelf.Ren := ⟨fun | 264 => 106 | n => n, fun | 53 => 40 | 46 => 38 | n => n, fun | n => n⟩
theorem lays264 : Go.Proofs.Lays.n264 Tryz.prog lays264_ren := {
  mixed := by kernel_rfl
  f264 := Tryz.func106.trans (congrArg some (by kernel_rfl))
  t46 := Tryz.underlying38
  a46 := Tryz.isAgg38
  z46 := Tryz.sizeOf38
  v46 := Tryz.zeroValue38
  t53 := Tryz.underlying40
  a53 := Tryz.isAgg40
  z53 := Tryz.sizeOf40
  v53 := Tryz.zeroValue40 }
theorem mul64 (x y : Int) (hx0 : 0 ≤ x) (hy0 : 0 ≤ y) (hx : x < 18446744073709551616) (hy : y < 18446744073709551616) (w : World) :
    Calls Tryz.prog 106 #[.int .u64 x, .int .u64 y] w fun e w' => e = .returned (.tuple #[.int .u64 (x * y / 18446744073709551616), .int .u64 (x * y % 18446744073709551616)]) ∧ w = w' := by
  obtain ⟨x, rfl⟩ := Int.eq_ofNat_of_zero_le hx0
  obtain ⟨y, rfl⟩ := Int.eq_ofNat_of_zero_le hy0
  refine (Any.bits_Mul64 lays264 x y (by omega) (by omega) w).mono ?_
  rintro e w' ⟨rfl, rfl⟩
  refine ⟨?_, rfl⟩
  rw [Int.natCast_ediv, Int.natCast_emod, Int.natCast_mul]
  rfl
theorem add64 (x y : Int) (hx0 : 0 ≤ x) (hy0 : 0 ≤ y) (w : World) : (callFunc 107 #[.int .u64 x, .int .u64 y, .int .u64 0]).run Tryz.prog w =
    .ok (.value (.tuple #[.int .u64 ((x + y) % 18446744073709551616), .int .u64 ((x + y) / 18446744073709551616)])) w := by
  have h := run_add64 (P := Tryz.prog) x y 0 (by omega) (by omega) (by omega) (by omega) (w := w)
  rw [run_callFunc_extern Tryz.func107 (by kernel_rfl) (by kernel_rfl) (by kernel_rfl) (e := add64Entry) (by kernel_rfl), h]
  simp only [Result.andThen, Int.add_zero]
end Go.Proofs.YtmnlidfalhjghaaGreatDoor

/- scalar: the mathematics: words of a number, what is left of a division by the order. -/
namespace Go.Proofs.YtmnlidfalhjghaaGreatDoor
namespace Sc

def L : Nat := 7237005577332262213973186563042994240857116359379907606001950938285454250989
/-- word j of a number -/
def wrd (n j : Nat) : Nat := n / 2 ^ (64 * j) % 18446744073709551616
/-- byte i of a number -/
def byt (n i : Nat) : Nat := n / 2 ^ (8 * i) % 256
theorem wrd_lt (n j : Nat) : wrd n j < 18446744073709551616 := Nat.mod_lt _ (by decide)
theorem byt_lt (n i : Nat) : byt n i < 256 := Nat.mod_lt _ (by decide)
theorem wrd0 (n : Nat) : wrd n 0 = n % 18446744073709551616 := by unfold wrd; simp
theorem wrd1 (n : Nat) : wrd n 1 = n / 18446744073709551616 % 18446744073709551616 := by unfold wrd; rfl
theorem wrd2 (n : Nat) : wrd n 2 = n / 340282366920938463463374607431768211456 % 18446744073709551616 := by unfold wrd; rfl
theorem wrd3 (n : Nat) : wrd n 3 = n / 6277101735386680763835789423207666416102355444464034512896 % 18446744073709551616 := by unfold wrd; rfl
/-- four words make the number -/
theorem of4 (n : Nat) (h : n < 2 ^ 256) : n = wrd n 0 + wrd n 1 * 18446744073709551616 + wrd n 2 * 340282366920938463463374607431768211456 + wrd n 3 * 6277101735386680763835789423207666416102355444464034512896 := by
  have e : (2 : Nat) ^ 256 = 115792089237316195423570985008687907853269984665640564039457584007913129639936 := by decide
  rw [e] at h
  rw [wrd0, wrd1, wrd2, wrd3]
  have h1 : n / 340282366920938463463374607431768211456 = n / 18446744073709551616 / 18446744073709551616 := by rw [Nat.div_div_eq_div_mul]
  have h2 : n / 6277101735386680763835789423207666416102355444464034512896 = n / 18446744073709551616 / 18446744073709551616 / 18446744073709551616 := by rw [Nat.div_div_eq_div_mul, Nat.div_div_eq_div_mul]
  rw [h1, h2]
  omega
/-- .. and are its words -/
theorem mk4 (a b c d : Nat) (ha : a < 18446744073709551616) (hb : b < 18446744073709551616) (hc : c < 18446744073709551616) (hd : d < 18446744073709551616) (n : Nat)
    (hn : n = a + b * 18446744073709551616 + c * 340282366920938463463374607431768211456 + d * 6277101735386680763835789423207666416102355444464034512896) :
    wrd n 0 = a ∧ wrd n 1 = b ∧ wrd n 2 = c ∧ wrd n 3 = d ∧ n < 2 ^ 256 := by
  have e : (2 : Nat) ^ 256 = 115792089237316195423570985008687907853269984665640564039457584007913129639936 := by decide
  rw [e, wrd0, wrd1, wrd2, wrd3]
  have h1 : n / 18446744073709551616 = b + c * 18446744073709551616 + d * 340282366920938463463374607431768211456 := by omega
  have h2 : n / 340282366920938463463374607431768211456 = c + d * 18446744073709551616 := by
    have : n / 340282366920938463463374607431768211456 = n / 18446744073709551616 / 18446744073709551616 := by rw [Nat.div_div_eq_div_mul]
    rw [this, h1]; omega
  have h3 : n / 6277101735386680763835789423207666416102355444464034512896 = d := by
    have : n / 6277101735386680763835789423207666416102355444464034512896 = n / 340282366920938463463374607431768211456 / 18446744073709551616 := by rw [Nat.div_div_eq_div_mul]
    rw [this, h2]; omega
  rw [h1, h2, h3]
  omega
/-- words of the order -/
def lw : Nat → Nat
  | 0 => 6346243789798364141
  | 1 => 1503914060200516822
  | 2 => 0
  | 3 => 1152921504606846976
  | _ => 0
theorem L_is : L = 6346243789798364141 + 1503914060200516822 * 18446744073709551616 + 0 * 340282366920938463463374607431768211456 + 1152921504606846976 * 6277101735386680763835789423207666416102355444464034512896 := by decide

/-! ### so many orders are taken off -/
def ov (q : Nat) : Nat → Nat
  | 0 => 0
  | k + 1 => (q * lw k + ov q k) / 18446744073709551616
def lo (q k : Nat) : Nat := (q * lw k + ov q k) % 18446744073709551616
def bl (n q : Nat) : Nat → Nat
  | 0 => 0
  | k + 1 => if wrd n k < lo q k + bl n q k then 1 else 0
def rs (n q k : Nat) : Nat := (wrd n k + 36893488147419103232 - lo q k - bl n q k) % 18446744073709551616
theorem lo_lt (q k : Nat) : lo q k < 18446744073709551616 := Nat.mod_lt _ (by decide)
theorem rs_lt (n q k : Nat) : rs n q k < 18446744073709551616 := Nat.mod_lt _ (by decide)
theorem bl_le (n q k : Nat) : bl n q k ≤ 1 := by
  cases k with
  | zero => exact Nat.zero_le _
  | succ k => unfold bl; split <;> omega
theorem lw_lt (k : Nat) : lw k < 18446744073709551616 := by unfold lw; split <;> decide
theorem ov_lt (q k : Nat) (hq : q < 18446744073709551616) : ov q k < 18446744073709551616 := by
  induction k with
  | zero => exact Nat.zero_lt_succ _
  | succ k ih =>
    unfold ov
    have h := Nat.mul_le_mul (Nat.le_pred_of_lt hq) (Nat.le_pred_of_lt (lw_lt k))
    simp only [Nat.pred_eq_sub_one] at h
    omega
/-- the number that is left -/
def offN (n q : Nat) : Nat := rs n q 0 + rs n q 1 * 18446744073709551616 + rs n q 2 * 340282366920938463463374607431768211456 + rs n q 3 * 6277101735386680763835789423207666416102355444464034512896
/-- what is still to be taken from above -/
def offO (n q : Nat) : Nat := ov q 4 + bl n q 4
theorem off_step (n q k : Nat) : wrd n k + bl n q (k + 1) * 18446744073709551616 = rs n q k + lo q k + bl n q k := by
  have h1 := wrd_lt n k
  have h2 := lo_lt q k
  have h3 := bl_le n q k
  have e : bl n q (k + 1) = if wrd n k < lo q k + bl n q k then 1 else 0 := rfl
  rw [e]
  unfold rs
  generalize bl n q k = b at *
  generalize lo q k = l at *
  generalize wrd n k = x at *
  split <;> omega
theorem ov_step (q k : Nat) : q * lw k + ov q k = ov q (k + 1) * 18446744073709551616 + lo q k := by
  have e : ov q (k + 1) = (q * lw k + ov q k) / 18446744073709551616 := rfl
  rw [e]; unfold lo; omega
theorem off_eq (n q : Nat) (h : n < 2 ^ 256) : n + offO n q * 115792089237316195423570985008687907853269984665640564039457584007913129639936 = q * L + offN n q := by
  have e := of4 n h
  have s0 := off_step n q 0
  have s1 := off_step n q 1
  have s2 := off_step n q 2
  have s3 := off_step n q 3
  have o0 := ov_step q 0
  have o1 := ov_step q 1
  have o2 := ov_step q 2
  have o3 := ov_step q 3
  have z0 : ov q 0 = 0 := rfl
  have z1 : bl n q 0 = 0 := rfl
  simp only [lw] at o0 o1 o2 o3
  unfold offO offN
  rw [L_is]
  simp only [Nat.reduceAdd] at *
  omega
theorem off_words (n q : Nat) : wrd (offN n q) 0 = rs n q 0 ∧ wrd (offN n q) 1 = rs n q 1 ∧ wrd (offN n q) 2 = rs n q 2 ∧ wrd (offN n q) 3 = rs n q 3 ∧ offN n q < 2 ^ 256 :=
  mk4 _ _ _ _ (rs_lt ..) (rs_lt ..) (rs_lt ..) (rs_lt ..) _ rfl

/-! ### one order is put back -/
def ca (n : Nat) : Nat → Nat
  | 0 => 0
  | k + 1 => (wrd n k + lw k + ca n k) / 18446744073709551616
def ps (n k : Nat) : Nat := (wrd n k + lw k + ca n k) % 18446744073709551616
theorem ps_lt (n k : Nat) : ps n k < 18446744073709551616 := Nat.mod_lt _ (by decide)
theorem ca_le (n k : Nat) : ca n k ≤ 1 := by
  induction k with
  | zero => exact Nat.zero_le _
  | succ k ih => have h1 := wrd_lt n k; have h2 := lw_lt k; unfold ca; omega
def backN (n : Nat) : Nat := ps n 0 + ps n 1 * 18446744073709551616 + ps n 2 * 340282366920938463463374607431768211456 + ps n 3 * 6277101735386680763835789423207666416102355444464034512896
theorem ca_step (n k : Nat) : wrd n k + lw k + ca n k = ca n (k + 1) * 18446744073709551616 + ps n k := by
  have e : ca n (k + 1) = (wrd n k + lw k + ca n k) / 18446744073709551616 := rfl
  rw [e]; unfold ps; omega
theorem back_eq (n : Nat) (h : n < 2 ^ 256) : n + L = ca n 4 * 115792089237316195423570985008687907853269984665640564039457584007913129639936 + backN n := by
  have e := of4 n h
  have s0 := ca_step n 0
  have s1 := ca_step n 1
  have s2 := ca_step n 2
  have s3 := ca_step n 3
  have z0 : ca n 0 = 0 := rfl
  simp only [lw] at s0 s1 s2 s3
  unfold backN
  rw [L_is]
  simp only [Nat.reduceAdd] at *
  omega
theorem back_words (n : Nat) : wrd (backN n) 0 = ps n 0 ∧ wrd (backN n) 1 = ps n 1 ∧ wrd (backN n) 2 = ps n 2 ∧ wrd (backN n) 3 = ps n 3 ∧ backN n < 2 ^ 256 :=
  mk4 _ _ _ _ (ps_lt ..) (ps_lt ..) (ps_lt ..) (ps_lt ..) _ rfl

/-! ### a word is brought down -/
def guessN (top next : Nat) : Nat := if top / 1152921504606846976 > 0 then 18446744073709551615 else top * 16 + next / 1152921504606846976
theorem guess_lt (top next : Nat) (h : next < 18446744073709551616) : guessN top next < 18446744073709551616 := by unfold guessN; split <;> omega
/-- the lower four words, a word brought down -/
def down (n x : Nat) : Nat := x + n % 6277101735386680763835789423207666416102355444464034512896 * 18446744073709551616
theorem down_words (n x : Nat) (hx : x < 18446744073709551616) : wrd (down n x) 0 = x ∧ wrd (down n x) 1 = wrd n 0 ∧ wrd (down n x) 2 = wrd n 1 ∧ wrd (down n x) 3 = wrd n 2 ∧ down n x < 2 ^ 256 := by
  apply mk4 _ _ _ _ hx (wrd_lt ..) (wrd_lt ..) (wrd_lt ..)
  unfold down
  have h1 : n / 340282366920938463463374607431768211456 = n / 18446744073709551616 / 18446744073709551616 := by rw [Nat.div_div_eq_div_mul]
  rw [wrd0, wrd1, wrd2, h1]
  omega
def restN (n x : Nat) : Nat :=
  let d := down n x
  let q := guessN (wrd n 3) (wrd n 2)
  if wrd n 3 < offO d q then backN (offN d q) else offN d q
theorem top_near (n q : Nat) (n0 n1 n2 n3 x : Nat) (hn : n < L) (hx : x < 18446744073709551616) (w0 : n0 < 18446744073709551616) (w1 : n1 < 18446744073709551616) (w2 : n2 < 18446744073709551616)
    (e4 : n = n0 + n1 * 18446744073709551616 + n2 * 340282366920938463463374607431768211456 + n3 * 6277101735386680763835789423207666416102355444464034512896) (hq : guessN n3 n2 = q) :
    q * L < n * 18446744073709551616 + x + L ∧ n * 18446744073709551616 + x < q * L + L := by
  unfold guessN at hq
  unfold L at *
  split at hq
  · subst hq; omega
  · have hk : n2 = n2 / 1152921504606846976 * 1152921504606846976 + n2 % 1152921504606846976 := by omega
    have hl : n2 % 1152921504606846976 < 1152921504606846976 := by omega
    have hm : n2 / 1152921504606846976 < 16 := by omega
    generalize n2 / 1152921504606846976 = a at *
    generalize n2 % 1152921504606846976 = b at *
    have hn3 : n3 < 1152921504606846976 := by omega
    subst hk
    subst hq
    subst e4
    clear hn
    omega
theorem rest_is (n x : Nat) (hn : n < L) (hx : x < 18446744073709551616) : restN n x = (n * 18446744073709551616 + x) % L := by
  have h256 : n < 2 ^ 256 := Nat.lt_trans hn (by decide)
  have e4 := of4 n h256
  obtain ⟨d0, d1, d2, d3, dl⟩ := down_words n x hx
  have eq := off_eq (down n x) (guessN (wrd n 3) (wrd n 2)) dl
  obtain ⟨_, _, _, _, ol⟩ := off_words (down n x) (guessN (wrd n 3) (wrd n 2))
  have eb := back_eq (offN (down n x) (guessN (wrd n 3) (wrd n 2))) ol
  obtain ⟨_, _, _, _, bl'⟩ := back_words (offN (down n x) (guessN (wrd n 3) (wrd n 2)))
  have ed := of4 _ dl
  rw [d0, d1, d2, d3] at ed
  have tn := top_near n _ _ _ _ _ x hn hx (wrd_lt n 0) (wrd_lt n 1) (wrd_lt n 2) e4 rfl
  have p256 : (2 : Nat) ^ 256 = 115792089237316195423570985008687907853269984665640564039457584007913129639936 := by decide
  have hN : n * 18446744073709551616 + x = wrd n 3 * 115792089237316195423570985008687907853269984665640564039457584007913129639936 + down n x := by omega
  rw [p256] at ol bl'
  obtain ⟨N, hNe⟩ : ∃ N, N = n * 18446744073709551616 + x := ⟨_, rfl⟩
  rw [← hNe] at hN tn ⊢
  clear hNe
  unfold restN
  simp only []
  generalize hq : guessN (wrd n 3) (wrd n 2) = q at *
  generalize offN (down n x) q = r at *
  generalize offO (down n x) q = o at *
  generalize backN r = b at *
  generalize ca r 4 = cc at *
  generalize down n x = d at *
  generalize wrd n 3 = n3 at *
  clear p256 d0 d1 d2 d3 dl h256 ed e4 hn hx hq
  have hL : L = 7237005577332262213973186563042994240857116359379907606001950938285454250989 := rfl
  obtain ⟨t1, t2⟩ := tn
  generalize hP : q * L = P at *
  split
  · rename_i hlt
    have h1 : o = n3 + 1 := by omega
    have h2 : cc = 1 := by omega
    have h3 : N + L = P + b := by omega
    have h4 : b < L := by omega
    have h5 : 1 ≤ q := by
      rcases Nat.eq_zero_or_pos q with h0 | h0
      · rw [h0, Nat.zero_mul] at hP; omega
      · exact h0
    obtain ⟨k, rfl⟩ : ∃ k, q = k + 1 := ⟨q - 1, by omega⟩
    rw [Nat.add_mul, Nat.one_mul] at hP
    have h6 : N = L * k + b := by rw [Nat.mul_comm]; omega
    rw [h6, Nat.mul_add_mod, Nat.mod_eq_of_lt h4]
  · rename_i hlt
    have h1 : o = n3 := by omega
    have h3 : N = P + r := by omega
    have h4 : r < L := by omega
    rw [h3, ← hP, Nat.mul_comm, Nat.mul_add_mod, Nat.mod_eq_of_lt h4]
theorem mod_lt (n : Nat) : n % L < L := Nat.mod_lt _ (by decide)
theorem lt256 (n : Nat) (h : n < L) : n < 2 ^ 256 := Nat.lt_trans h (by decide)

/-! ### words from the highest on -/
theorem wrd_split (n j : Nat) : n / 2 ^ (64 * j) = n / 2 ^ (64 * (j + 1)) * 18446744073709551616 + wrd n j := by
  have e : (2 : Nat) ^ (64 * (j + 1)) = 2 ^ (64 * j) * 18446744073709551616 := by rw [show 64 * (j + 1) = 64 * j + 64 by omega, Nat.pow_add]
  rw [e, ← Nat.div_div_eq_div_mul]
  unfold wrd
  omega
theorem rest_step (n j : Nat) : restN (n / 2 ^ (64 * (j + 1)) % L) (wrd n j) = n / 2 ^ (64 * j) % L := by
  rw [rest_is _ _ (mod_lt _) (wrd_lt _ _), wrd_split n j]
  generalize n / 2 ^ (64 * (j + 1)) = a
  rw [Nat.add_mod, Nat.mul_mod, Nat.mod_mod, ← Nat.mul_mod, ← Nat.add_mod]

/-! ### bytes, the lowest first -/
def leN (f : Nat → Nat) : Nat → Nat
  | 0 => 0
  | k + 1 => leN f k + f k * 2 ^ (8 * k)
theorem leN_lt (f : Nat → Nat) (hf : ∀ i, f i < 256) (k : Nat) : leN f k < 2 ^ (8 * k) := by
  induction k with
  | zero => exact Nat.zero_lt_one
  | succ k ih =>
    have e : (2 : Nat) ^ (8 * (k + 1)) = 2 ^ (8 * k) * 256 := by rw [show 8 * (k + 1) = 8 * k + 8 by omega, Nat.pow_add]
    have h := hf k
    have := Nat.mul_le_mul_right (2 ^ (8 * k)) (show f k + 1 ≤ 256 by omega)
    rw [Nat.add_mul, Nat.one_mul] at this
    rw [leN, e]; omega
theorem leN_byt (n k : Nat) : leN (byt n) k = n % 2 ^ (8 * k) := by
  induction k with
  | zero => rw [leN, show 8 * 0 = 0 by rfl, Nat.pow_zero, Nat.mod_one]
  | succ k ih =>
    have e : (2 : Nat) ^ (8 * (k + 1)) = 2 ^ (8 * k) * 256 := by rw [show 8 * (k + 1) = 8 * k + 8 by omega, Nat.pow_add]
    rw [leN, ih, e, Nat.mod_mul]
    unfold byt
    rw [Nat.mul_comm (2 ^ (8 * k))]
theorem leN_congr (f g : Nat → Nat) (k : Nat) (h : ∀ i, i < k → f i = g i) : leN f k = leN g k := by
  induction k with
  | zero => rfl
  | succ k ih => rw [leN, leN, ih (fun i hi => h i (by omega)), h k (by omega)]
/-- bytes tell the number -/
theorem byt_ext (n : Nat) : ∀ x y : Nat, x < 2 ^ (8 * n) → y < 2 ^ (8 * n) → (∀ i, i < n → byt x i = byt y i) → x = y := by
  intro x y hx hy h
  have h1 := leN_byt x n
  have h2 := leN_byt y n
  rw [Nat.mod_eq_of_lt hx] at h1
  rw [Nat.mod_eq_of_lt hy] at h2
  rw [← h1, ← h2]
  exact leN_congr _ _ _ h
theorem byt_leN (f : Nat → Nat) (hf : ∀ i, f i < 256) (k i : Nat) (h : i < k) : byt (leN f k) i = f i := by
  induction k with
  | zero => omega
  | succ k ih =>
    rw [leN]
    unfold byt at *
    by_cases hik : i = k
    · subst hik
      rw [Nat.add_mul_div_right _ _ (Nat.pow_pos (by decide)), Nat.div_eq_of_lt (leN_lt f hf i), Nat.zero_add, Nat.mod_eq_of_lt (hf i)]
    · have hlt : i < k := by omega
      have e : (2 : Nat) ^ (8 * k) = 2 ^ (8 * i) * (2 ^ (8 * (k - i - 1)) * 256) := by
        rw [Nat.mul_comm (2 ^ (8 * (k - i - 1))), show (256 : Nat) = 2 ^ 8 by rfl, ← Nat.pow_add, ← Nat.pow_add]; congr 1; omega
      rw [e, ← Nat.mul_assoc, Nat.mul_comm (f k), Nat.mul_assoc, Nat.add_mul_div_left _ _ (Nat.pow_pos (by decide)), ← Nat.mul_assoc, Nat.add_mul_mod_self_right]
      exact ih hlt
/-- a byte put into its word -/
theorem fill_same (f : Nat → Nat) (hf : ∀ i, f i < 256) (k : Nat) : wrd (leN f (k + 1)) (k / 8) = wrd (leN f k) (k / 8) + f k * 2 ^ (8 * (k % 8)) ∧ wrd (leN f k) (k / 8) < 2 ^ (8 * (k % 8)) := by
  have hl := leN_lt f hf k
  have hk := hf k
  have e : (2 : Nat) ^ (8 * k) = 2 ^ (64 * (k / 8)) * 2 ^ (8 * (k % 8)) := by rw [← Nat.pow_add]; congr 1; omega
  have hd : leN f k / 2 ^ (64 * (k / 8)) < 2 ^ (8 * (k % 8)) := by rw [Nat.div_lt_iff_lt_mul (Nat.pow_pos (by decide)), Nat.mul_comm, ← e]; exact hl
  have hb : (2 : Nat) ^ (8 * (k % 8)) * 256 ≤ 18446744073709551616 := by
    have : (2 : Nat) ^ (8 * (k % 8)) * 256 = 2 ^ (8 * (k % 8) + 8) := by rw [Nat.pow_add]
    rw [this, show (18446744073709551616 : Nat) = 2 ^ 64 by rfl]
    exact Nat.pow_le_pow_right (by decide) (by omega)
  have hw : wrd (leN f k) (k / 8) = leN f k / 2 ^ (64 * (k / 8)) := by unfold wrd; exact Nat.mod_eq_of_lt (by omega)
  refine ⟨?_, by rw [hw]; exact hd⟩
  have h2 : leN f (k + 1) / 2 ^ (64 * (k / 8)) = leN f k / 2 ^ (64 * (k / 8)) + f k * 2 ^ (8 * (k % 8)) := by
    rw [leN, e, ← Nat.mul_assoc, Nat.mul_comm (f k), Nat.mul_assoc, Nat.add_mul_div_left _ _ (Nat.pow_pos (by decide))]
  rw [hw]
  unfold wrd
  rw [h2]
  apply Nat.mod_eq_of_lt
  have := Nat.mul_le_mul_right (2 ^ (8 * (k % 8))) (show f k + 1 ≤ 256 by omega)
  rw [Nat.add_mul, Nat.one_mul, Nat.mul_comm 256] at this
  omega
theorem fill_other (f : Nat → Nat) (hf : ∀ i, f i < 256) (k j : Nat) (h : j ≠ k / 8) : wrd (leN f (k + 1)) j = wrd (leN f k) j := by
  have hl := leN_lt f hf k
  have hl1 := leN_lt f hf (k + 1)
  unfold wrd
  by_cases hj : j < k / 8
  · have e : (2 : Nat) ^ (8 * k) = 2 ^ (64 * j) * (2 ^ (8 * k - 64 * j - 64) * 18446744073709551616) := by
      rw [show (18446744073709551616 : Nat) = 2 ^ 64 by rfl, ← Nat.pow_add, ← Nat.pow_add]; congr 1; omega
    rw [leN, e, ← Nat.mul_assoc, Nat.mul_comm (f k), Nat.mul_assoc, Nat.add_mul_div_left _ _ (Nat.pow_pos (by decide)), ← Nat.mul_assoc, Nat.add_mul_mod_self_right]
  · have h1 : (2 : Nat) ^ (8 * k) ≤ 2 ^ (64 * j) := Nat.pow_le_pow_right (by decide) (by omega)
    have h2 : (2 : Nat) ^ (8 * (k + 1)) ≤ 2 ^ (64 * j) := Nat.pow_le_pow_right (by decide) (by omega)
    rw [Nat.div_eq_of_lt (by omega), Nat.div_eq_of_lt (by omega)]
end Sc
end Go.Proofs.YtmnlidfalhjghaaGreatDoor

/- Blocks known whole, and what a call may have written: plain facts on worlds. -/
namespace Go.Proofs.YtmnlidfalhjghaaGreatDoor
open Go.RowKit

/-- Block B is a row of the cells L, none of them frozen. -/
def Blk (w : World) (B : Nat) (T : TypeId) (L : List Value) : Prop := w.heap[B]? = some (.cells L.toArray T (0, 0))

theorem Blk.lt {w : World} {B : Nat} {T : TypeId} {L : List Value} (h : Blk w B T L) : B < w.heap.size := by
  rcases Nat.lt_or_ge B w.heap.size with h' | h'
  · exact h'
  · unfold Blk at h; simp [Array.getElem?_eq_none h'] at h
theorem Blk.cell {w : World} {B : Nat} {T : TypeId} {L : List Value} (h : Blk w B T L) {i : Nat} {v : Value} (hv : L[i]? = some v) : w.cell? ⟨B, i, none⟩ = some v := by
  unfold Blk at h; simp [World.cell?, h, hv]
theorem Blk.free {w : World} {B : Nat} {T : TypeId} {L : List Value} (h : Blk w B T L) (i : Nat) : w.frozen? ⟨B, i, none⟩ = false := by
  unfold Blk at h; simp [World.frozen?, h]
theorem Blk.set {w : World} {B : Nat} {T : TypeId} {L : List Value} (h : Blk w B T L) (i : Nat) (v : Value) : Blk (w.setCell ⟨B, i, none⟩ v) B T (L.set i v) := by
  have hlt := h.lt
  unfold Blk at h ⊢
  have h' : w.heap[B] = .cells L.toArray T (0, 0) := by simpa [Array.getElem?_eq_getElem hlt] using h
  show (w.heap.modify B _)[B]? = _
  rw [Array.getElem?_eq_getElem (by simpa using hlt), Array.getElem_modify_self, h']
  simp
theorem Blk.other {w : World} {B : Nat} {T : TypeId} {L : List Value} (h : Blk w B T L) {a : Addr} (ha : a.block ≠ B) (v : Value) : Blk (w.setCell a v) B T L := by
  unfold Blk at h ⊢; rw [Below.heap_setCell _ _ _ _ (fun e => ha e.symm)]; exact h
theorem Blk.alloc {w : World} {B : Nat} {T : TypeId} {L : List Value} (h : Blk w B T L) (o : Obj) : Blk (w.alloc o) B T L := by
  have hlt := h.lt
  unfold Blk at h ⊢; rw [Below.heap_alloc _ _ _ hlt]; exact h
theorem Blk.drewN {w : World} {B : Nat} {T : TypeId} {L : List Value} (h : Blk w B T L) (n : Nat) : Blk (w.drewN n) B T L := h
theorem Blk.drew {w : World} {B : Nat} {T : TypeId} {L : List Value} (h : Blk w B T L) : Blk w.drew B T L := h
theorem Blk.grown {w w' : World} {B : Nat} {T : TypeId} {L : List Value} {row : Option Nat} (h : Blk w B T L) (hg : w.grownBy w' row) (hr : some B ≠ row) : Blk w' B T L := by
  have hlt := h.lt
  unfold Blk at h ⊢; rw [hg.block B hlt hr]; exact h
theorem Blk.new (w : World) (L : List Value) (T : TypeId) : Blk (w.alloc (.cells L.toArray T)) w.heap.size T L := by
  show (w.heap.push _)[w.heap.size]? = _
  simp

theorem gb_refl (w : World) (row : Option Nat) : w.grownBy w row := ⟨rfl, rfl, rfl, Nat.le_refl _, fun _ _ _ => rfl⟩
theorem gb_trans {a b c : World} {row : Option Nat} (h : a.grownBy b row) (k : b.grownBy c row) : a.grownBy c row :=
  ⟨k.os.trans h.os, k.tape.trans h.tape, k.output.trans h.output, Nat.le_trans h.size k.size, fun i hi hr => (k.block i (Nat.lt_of_lt_of_le hi h.size) hr).trans (h.block i hi hr)⟩
theorem gb_row {a b : World} (h : a.grownBy b none) (row : Option Nat) : a.grownBy b row :=
  ⟨h.os, h.tape, h.output, h.size, fun i hi _ => h.block i hi (by simp)⟩
/-- what is written lies in a block that is new -/
theorem gb_new {a b : World} {B : Nat} (h : a.grownBy b (some B)) (hB : a.heap.size ≤ B) (row : Option Nat) : a.grownBy b row :=
  ⟨h.os, h.tape, h.output, h.size, fun i hi _ => h.block i hi (by intro e; cases e; omega)⟩
/-- .. in a block that is new to an elder world -/
theorem gb_then {a b c : World} {B : Nat} {row : Option Nat} (h : a.grownBy b row) (k : b.grownBy c (some B)) (hB : a.heap.size ≤ B) : a.grownBy c row :=
  ⟨k.os.trans h.os, k.tape.trans h.tape, k.output.trans h.output, Nat.le_trans h.size k.size, fun i hi hr => (k.block i (Nat.lt_of_lt_of_le hi h.size) (by intro e; cases e; omega)).trans (h.block i hi hr)⟩
theorem gb_alloc {a w : World} {row : Option Nat} (h : a.grownBy w row) (o : Obj) : a.grownBy (w.alloc o) row := gb_trans h (World.grownBy_alloc w o row)
theorem gb_drewN {a w : World} {row : Option Nat} (h : a.grownBy w row) (n : Nat) : a.grownBy (w.drewN n) row := ⟨h.os, h.tape, h.output, h.size, h.block⟩
theorem gb_drew {a w : World} {row : Option Nat} (h : a.grownBy w row) : a.grownBy w.drew row := ⟨h.os, h.tape, h.output, h.size, h.block⟩
theorem gb_set {a w : World} {B : Nat} (h : a.grownBy w (some B)) (i : Nat) (v : Value) : a.grownBy (w.setCell ⟨B, i, none⟩ v) (some B) :=
  gb_trans h ⟨rfl, rfl, rfl, by simp [World.setCell], fun k _ hr => Below.heap_setCell _ _ _ _ (fun e => hr (by rw [e]))⟩
theorem gb_set_new {a w : World} {row : Option Nat} (h : a.grownBy w row) {p : Addr} (hp : a.heap.size ≤ p.block) (v : Value) : a.grownBy (w.setCell p v) row :=
  ⟨h.os, h.tape, h.output, by simp [World.setCell]; exact h.size, fun k hk hr => by rw [Below.heap_setCell _ _ _ _ (by omega)]; exact h.block k hk hr⟩
theorem gb_below {a b : World} (h : a.grownBy b none) : Below a.heap.size a b := ⟨h.os, h.tape, h.output, h.size, fun k hk => h.block k hk (by simp)⟩
theorem gb_cell {a b : World} {row : Option Nat} (h : a.grownBy b row) {p : Addr} (hp : p.block < a.heap.size) (hr : some p.block ≠ row) : b.cell? p = a.cell? p := World.cell?_of_block (w := a) (h.block p.block hp hr)

theorem gb_setRow {a w : World} {row : Option Nat} (h : a.grownBy w row) {g : Nat} (hg : a.heap.size ≤ g) (cs : Array Value) : a.grownBy (w.setRow g cs) row :=
  ⟨h.os, h.tape, h.output, by simp; exact h.size, fun k hk hr => by rw [setRow_other _ _ _ _ (by omega)]; exact h.block k hk hr⟩
theorem gb_setRow' {a w : World} {g : Nat} (h : a.grownBy w (some g)) (cs : Array Value) : a.grownBy (w.setRow g cs) (some g) :=
  ⟨h.os, h.tape, h.output, by simp; exact h.size, fun k hk hr => by rw [setRow_other _ _ _ _ (fun e => hr (by rw [e]))]; exact h.block k hk hr⟩
theorem Blk.row {w : World} {B : Nat} {T : TypeId} {L : List Value} (h : Blk w B T L) (L' : List Value) : Blk (w.setRow B L'.toArray) B T L' := setRow_heap _ _ _ _ _ _ h
theorem Blk.rowOther {w : World} {B : Nat} {T : TypeId} {L : List Value} (h : Blk w B T L) {g : Nat} (hg : g ≠ B) (cs : Array Value) : Blk (w.setRow g cs) B T L := by
  unfold Blk at h ⊢; rw [setRow_other _ _ _ _ (fun e => hg e.symm)]; exact h

/-- n cells from place o on, one by one. -/
def putN (L : List Value) (o : Nat) (f : Nat → Value) : Nat → List Value
  | 0 => L
  | k + 1 => (putN L o f k).set (o + k) (f k)
theorem putN_length (L : List Value) (o : Nat) (f : Nat → Value) (k : Nat) : (putN L o f k).length = L.length := by
  induction k with
  | zero => rfl
  | succ k ih => simp [putN, ih]
theorem putN_get (L : List Value) (o : Nat) (f : Nat → Value) (k i : Nat) (hk : o + k ≤ L.length) : (putN L o f k)[i]? = if o ≤ i ∧ i < o + k then some (f (i - o)) else L[i]? := by
  induction k with
  | zero => simp [putN]; omega
  | succ k ih =>
    have hl := putN_length L o f k
    rw [putN, List.getElem?_set, ih (by omega), hl]
    by_cases h : o + k = i
    · subst h; simp only [if_true]; rw [if_pos (by omega), if_pos (by omega)]; congr 2; omega
    · rw [if_neg h]
      by_cases h2 : o ≤ i ∧ i < o + k
      · rw [if_pos h2, if_pos (by omega)]
      · rw [if_neg h2, if_neg (by omega)]
theorem putN_is (L : List Value) (o : Nat) (f : Nat → Value) (k : Nat) (hk : o + k ≤ L.length) : putN L o f k = L.take o ++ (List.range k).map f ++ L.drop (o + k) := by
  apply List.ext_getElem?
  intro i
  rw [putN_get L o f k i hk]
  by_cases h1 : i < o
  · rw [if_neg (by omega), List.append_assoc, List.getElem?_append_left (by simp; omega), List.getElem?_take, if_pos h1]
  · by_cases h2 : i < o + k
    · rw [if_pos (by omega), List.append_assoc, List.getElem?_append_right (by simp; omega), List.getElem?_append_left (by simp; omega)]
      simp [Nat.min_eq_left (show o ≤ L.length by omega), show i - o < k by omega]
    · rw [if_neg (by omega), List.getElem?_append_right (by simp; omega)]
      simp [Nat.min_eq_left (show o ≤ L.length by omega)]
      congr 1; omega
end Go.Proofs.YtmnlidfalhjghaaGreatDoor

/- scalar: mulAddWords, guess; Sub64. -/
namespace Go.Proofs.YtmnlidfalhjghaaGreatDoor
open Go.RowKit

theorem add64c (x y c : Int) (hx0 : 0 ≤ x) (hy0 : 0 ≤ y) (hc0 : 0 ≤ c) (hc : c ≤ 1) (w : World) : (callFunc 107 #[.int .u64 x, .int .u64 y, .int .u64 c]).run Tryz.prog w =
    .ok (.value (.tuple #[.int .u64 ((x + y + c) % 18446744073709551616), .int .u64 ((x + y + c) / 18446744073709551616)])) w := by
  have h := run_add64 (P := Tryz.prog) x y c (by omega) (by omega) (by omega) (by omega) (w := w)
  rw [run_callFunc_extern Tryz.func107 (by kernel_rfl) (by kernel_rfl) (by kernel_rfl) (e := add64Entry) (by kernel_rfl), h]
  simp only [Result.andThen]
theorem sub64c (x y b : Nat) (hb : b ≤ 1) (w : World) : (callFunc 108 #[.int .u64 x, .int .u64 y, .int .u64 b]).run Tryz.prog w =
    .ok (.value (.tuple #[.int .u64 (((x + 18446744073709551616 - y - b) % 18446744073709551616 : Nat) : Int), .int .u64 ((if x < y + b then 1 else 0 : Nat) : Int)])) w := by
  rw [run_callFunc_extern Tryz.func108 (by kernel_rfl) (by kernel_rfl) (by kernel_rfl) (e := sub64Entry) (by kernel_rfl), run_sub64 x y b hb]
  rfl
theorem mw_eq (p a b : Int) (p0 : 0 ≤ p) (p1 : p ≤ 340282366920938463426481119284349108225) (a0 : 0 ≤ a) (a1 : a < 18446744073709551616) (b0 : 0 ≤ b) (b1 : b < 18446744073709551616) :
    IntKind.u64.wrap (IntKind.u64.wrap (p / 18446744073709551616 + (p % 18446744073709551616 + a) / 18446744073709551616) + ((p % 18446744073709551616 + a) % 18446744073709551616 + b) / 18446744073709551616) = (p + a + b) / 18446744073709551616 ∧
    (p % 18446744073709551616 + a + b) % 18446744073709551616 = (p + a + b) % 18446744073709551616 := by
  rw [IntKind.wrap_u64, IntKind.wrap_u64]
  omega
theorem mul_bd (x y : Int) (hx0 : 0 ≤ x) (hy0 : 0 ≤ y) (hx : x < 18446744073709551616) (hy : y < 18446744073709551616) : 0 ≤ x * y ∧ x * y ≤ 340282366920938463426481119284349108225 := by
  refine ⟨Int.mul_nonneg hx0 hy0, ?_⟩
  have h1 : x * y ≤ 18446744073709551615 * y := Int.mul_le_mul_of_nonneg_right (by omega) hy0
  omega
set_option maxHeartbeats 400000 in
theorem maw_int (x y a b : Int) (w : World) (x0 : 0 ≤ x) (y0 : 0 ≤ y) (x1 : x < 18446744073709551616) (y1 : y < 18446744073709551616) (a0 : 0 ≤ a) (a1 : a < 18446744073709551616) (b0 : 0 ≤ b) (b1 : b < 18446744073709551616) :
    Calls Tryz.prog 68 #[.int .u64 x, .int .u64 y, .int .u64 a, .int .u64 b] w fun e w' => e = .returned (.tuple #[.int .u64 ((x * y + a + b) / 18446744073709551616), .int .u64 ((x * y + a + b) % 18446744073709551616)]) ∧ w = w' := by
  obtain ⟨p0, p1⟩ := mul_bd x y x0 y0 x1 y1
  have H := Lib.hid (mw_eq (x * y) a b p0 p1 a0 a1 b0 b1)
  have M := Lib.hid (mul64 x y x0 y0 x1 y1)
  have c0 : 0 ≤ x * y % 18446744073709551616 := by omega
  have c1 : 0 ≤ (x * y % 18446744073709551616 + a) % 18446744073709551616 := by omega
  have q0 : 0 ≤ x * y / 18446744073709551616 := by omega
  generalize x * y = p at *
  obtain ⟨hi, hhi⟩ : ∃ hi, hi = p / 18446744073709551616 := ⟨_, rfl⟩
  obtain ⟨lo, hlo⟩ : ∃ lo, lo = p % 18446744073709551616 := ⟨_, rfl⟩
  rw [← hhi, ← hlo] at H M
  rw [← hlo] at c0 c1
  rw [← hhi] at q0
  clear hhi hlo p1 p0 x0 x1 y0 y1
  go_enter Tryz.func68, Tryz.ntmps68
  go_wp2_with (first | (go_at_call 106; refine (M.out _).mono ?_; rintro e w' ⟨rfl, rfl⟩) | simp only [add64 _ _ c0 a0, add64 _ _ c1 b0])
  go_ret2
  rw [← H.out.1, ← H.out.2]
  exact ⟨rfl, rfl⟩
theorem maw_any (x y a b : Nat) (w : World) (x1 : x < 18446744073709551616) (y1 : y < 18446744073709551616) (a1 : a < 18446744073709551616) (b1 : b < 18446744073709551616) :
    Calls Tryz.prog 68 #[.int .u64 x, .int .u64 y, .int .u64 a, .int .u64 b] w fun e w' => e = .returned (.tuple #[.int .u64 (((x * y + a + b) / 18446744073709551616 : Nat) : Int), .int .u64 (((x * y + a + b) % 18446744073709551616 : Nat) : Int)]) ∧ w = w' := by
  refine (maw_int x y a b w (by omega) (by omega) (by omega) (by omega) (by omega) (by omega) (by omega) (by omega)).mono ?_
  rintro e w' ⟨rfl, rfl⟩
  refine ⟨?_, rfl⟩
  have e1 : ((x : Int) * y + a + b) = ((x * y + a + b : Nat) : Int) := by push_cast; rfl
  rw [e1]
  rfl
theorem guess_bits (t n : Nat) (ht : t < 1152921504606846976) (hn : n < 18446744073709551616) : bits .or .u64 ((t : Int) * 16) ((n : Int) / 1152921504606846976) = ((t * 16 + n / 1152921504606846976 : Nat) : Int) := by
  have e1 : (t : Int) * 16 = ((2 ^ 4 * t : Nat) : Int) := by omega
  have e2 : (n : Int) / 1152921504606846976 = ((n / 1152921504606846976 : Nat) : Int) := by omega
  rw [e1, e2, u64_or_nat _ _ (by omega) (by omega), ← Nat.two_pow_add_eq_or_of_lt (by omega)]
  omega
set_option maxHeartbeats 400000 in
theorem sguess_any (t n : Nat) (w : World) (ht : t < 18446744073709551616) (hn : n < 18446744073709551616) :
    Calls Tryz.prog 71 #[.int .u64 t, .int .u64 n] w fun e w' => e = .returned (.int .u64 (Sc.guessN t n : Int)) ∧ w = w' := by
  by_cases h : 0 < (t : Int) / 1152921504606846976
  · have e : Sc.guessN t n = 18446744073709551615 := by unfold Sc.guessN; rw [if_pos (by omega)]
    have E := Lib.hid e; clear e
    go_enter Tryz.func71, Tryz.ntmps71
    go_wp2
    go_ret
    exact ⟨by rw [E.out]; rfl, rfl⟩
  · have e : Sc.guessN t n = t * 16 + n / 1152921504606846976 := by unfold Sc.guessN; rw [if_neg (by omega)]
    have H := Lib.hid (guess_bits t n (by omega) hn)
    have E := Lib.hid e; clear e
    go_enter Tryz.func71, Tryz.ntmps71
    go_wp2
    go_ret
    exact ⟨by rw [E.out, ← H.out]; rfl, rfl⟩
end Go.Proofs.YtmnlidfalhjghaaGreatDoor

/- scalar: takeOff, putBack: orders are taken from the rest, one is put back. -/
namespace Go.Proofs.YtmnlidfalhjghaaGreatDoor
open Go.RowKit

def u64N (n : Nat) : Value := .int .u64 (n : Int)
def wV (n j : Nat) : Value := u64N (Sc.wrd n j)
/-- the order's four words -/
structure OTab (w : World) : Prop where
  lt : 0 < w.heap.size
  cel : ∀ i, i < 4 → w.cell? ⟨0, i, none⟩ = some (u64N (Sc.lw i))
theorem OTab.kept {w w' : World} (h : OTab w) {row : Option Nat} (hg : w.grownBy w' row) (hr : ∀ r, row = some r → 0 < r) : OTab w' :=
  ⟨Nat.lt_of_lt_of_le h.lt hg.size, fun i hi => by rw [gb_cell hg (p := ⟨0, i, none⟩) h.lt (fun e => by have := hr _ e.symm; simp at this)]; exact h.cel i hi⟩
/-- eight cells, and the rest's four -/
def recL (X : List Value) (n : Nat) : List Value := X ++ [wV n 0, wV n 1, wV n 2, wV n 3]
/-- eight cells, and a rest's four, of which the first k are turned -/
def mixL (X : List Value) (f g : Nat → Nat) (k : Nat) : List Value := X ++ (List.range 4).map fun j => u64N (if j < k then f j else g j)
theorem mixL_set (X : List Value) (hX : X.length = 8) (f g : Nat → Nat) (k : Nat) (hk : k < 4) : (mixL X f g k).set (8 + k) (u64N (f k)) = mixL X f g (k + 1) := by
  unfold mixL
  rw [List.set_append_right _ _ (by omega), show 8 + k - X.length = k by omega]
  congr 1
  apply List.ext_getElem?
  intro i
  rw [List.getElem?_set, List.length_map, List.length_range]
  by_cases hi : i < 4
  · rw [List.getElem?_map, List.getElem?_map, List.getElem?_range hi]
    by_cases h : k = i
    · subst h; simp [hk]
    · simp [h, show i < k + 1 ↔ i < k by omega]
  · rw [if_neg (by omega), List.getElem?_eq_none (by simp; omega), List.getElem?_eq_none (by simp; omega)]
theorem mixL_get (X : List Value) (hX : X.length = 8) (f g : Nat → Nat) (k : Nat) (hk : k < 4) : (mixL X f g k)[8 + k]? = some (u64N (g k)) := by
  unfold mixL
  rw [List.getElem?_append_right (by omega), show 8 + k - X.length = k by omega, List.getElem?_map, List.getElem?_range hk]
  simp
theorem mixL_start (X : List Value) (f : Nat → Nat) (n : Nat) : mixL X f (Sc.wrd n) 0 = recL X n := by
  simp [mixL, recL, List.range, List.range.loop, wV]
theorem mixL_end (X : List Value) (f g : Nat → Nat) (n : Nat) (h0 : Sc.wrd n 0 = f 0) (h1 : Sc.wrd n 1 = f 1) (h2 : Sc.wrd n 2 = f 2) (h3 : Sc.wrd n 3 = f 3) : mixL X f g 4 = recL X n := by
  simp [mixL, recL, List.range, List.range.loop, wV, h0, h1, h2, h3]
theorem off_end (X : List Value) (n q : Nat) : mixL X (Sc.rs n q) (Sc.wrd n) 4 = recL X (Sc.offN n q) := by
  obtain ⟨h0, h1, h2, h3, _⟩ := Sc.off_words n q
  exact mixL_end X _ _ _ h0 h1 h2 h3
theorem back_end (X : List Value) (n : Nat) : mixL X (Sc.ps n) (Sc.wrd n) 4 = recL X (Sc.backN n) := by
  obtain ⟨h0, h1, h2, h3, _⟩ := Sc.back_words n
  exact mixL_end X _ _ _ h0 h1 h2 h3
theorem sub_step (n q k : Nat) : (Sc.wrd n k + 18446744073709551616 - Sc.lo q k - Sc.bl n q k) % 18446744073709551616 = Sc.rs n q k ∧ (if Sc.wrd n k < Sc.lo q k + Sc.bl n q k then 1 else 0) = Sc.bl n q (k + 1) := by
  have h1 := Sc.wrd_lt n k
  have h2 := Sc.lo_lt q k
  have h3 := Sc.bl_le n q k
  refine ⟨?_, rfl⟩
  unfold Sc.rs
  omega

theorem order_index (k : Nat) (hk : k < 4) : ∀ w, (Instr.index 44 (.agg #[.int .u64 6346243789798364141, .int .u64 1503914060200516822, .int .u64 0, .int .u64 1152921504606846976]) (.int .i64 k)).run Tryz.prog w = .ok (.int .u64 (Sc.lw k : Int)) w := by
  intro w
  obtain rfl | rfl | rfl | rfl : k = 0 ∨ k = 1 ∨ k = 2 ∨ k = 3 := by omega
  all_goals kernel_rfl
theorem offO_bd (n q : Nat) (hn : n < 2 ^ 256) (hq : q < 18446744073709551616) : (Sc.ov q 4 : Int) + (Sc.bl n q 4 : Int) ≤ 18446744073709551615 := by
  have h := Sc.off_eq n q hn
  have h2 := (Sc.off_words n q).2.2.2.2
  have e : (2 : Nat) ^ 256 = 115792089237316195423570985008687907853269984665640564039457584007913129639936 := by decide
  rw [e] at h2
  have hE : Sc.offO n q = Sc.ov q 4 + Sc.bl n q 4 := rfl
  rw [hE] at h
  unfold Sc.L at h
  generalize Sc.ov q 4 = o4 at *
  generalize Sc.bl n q 4 = b4 at *
  generalize Sc.offN n q = r at *
  clear e hn hE
  omega
set_option maxHeartbeats 1600000 in
theorem takeOff_any (R n q : Nat) (T : TypeId) (X : List Value) (w : World) (hX : X.length = 8) (hn : n < 2 ^ 256) (hq : q < 18446744073709551616) (hT : OTab w) (hb : Blk w R T (recL X n)) :
    Calls Tryz.prog 70 #[.pointer (some ⟨R, 0, none⟩), .int .u64 q] w fun e w' => e = .returned (.int .u64 (Sc.offO n q : Int)) ∧ w.grownBy w' (some R) ∧ Blk w' R T (recL X (Sc.offN n q)) := by
  have t0 := hT.cel 0 (by decide)
  have t1 := hT.cel 1 (by decide)
  have t2 := hT.cel 2 (by decide)
  have t3 := hT.cel 3 (by decide)
  have HT := Lib.hid hT; clear hT
  have HX := Lib.hid hX; clear hX
  rw [← mixL_start X (Sc.rs n q) n] at hb
  have HB := Lib.hid hb; clear hb
  unfold u64N at t0 t1 t2 t3
  simp only [Sc.lw] at t0 t1 t2 t3
  go_enter Tryz.func70, Tryz.ntmps70
  go_wp2
  go_loopw [5, 6, 11] (fun o b i wr => ∃ k : Nat, k ≤ 4 ∧ i = .int .i64 k ∧ o = .int .u64 (Sc.ov q k : Int) ∧ b = .int .u64 (Sc.bl n q k : Int) ∧ w.grownBy wr (some R) ∧ Blk wr R T (mixL X (Sc.rs n q) (Sc.wrd n) k)) (fun _ _ i _ => 4 - (intOf i).toNat)
  case atStart => exact ⟨0, by omega, rfl, rfl, rfl, gb_refl _ _, HB.out⟩
  case round =>
    obtain ⟨k, hk, rfl, rfl, rfl, hg, hb⟩ := hrel
    by_cases hlt : k < 4
    · have hs := sub_step n q k
      have hset := mixL_set X HX.out (Sc.rs n q) (Sc.wrd n) k hlt
      have c0 := hb.cell (mixL_get X HX.out (Sc.rs n q) (Sc.wrd n) k hlt)
      have f0 := hb.free (8 + k)
      have hi := order_index k hlt
      have b1 := Sc.bl_le n q k
      have l1 := Sc.lw_lt k
      have o1 := Sc.ov_lt q k hq
      have hm := maw_any q (Sc.lw k) (Sc.ov q k) 0
      have he : (q * Sc.lw k + Sc.ov q k + 0) / 18446744073709551616 = Sc.ov q (k + 1) := rfl
      have hl : (q * Sc.lw k + Sc.ov q k + 0) % 18446744073709551616 = Sc.lo q k := rfl
      rw [he, hl] at hm
      clear he hl
      have HM := Lib.hid (fun W => hm W hq l1 o1 (by decide)); clear hm
      have hsub := sub64c (Sc.wrd n k) (Sc.lo q k) (Sc.bl n q k) b1
      rw [hs.1, hs.2] at hsub
      have HS := Lib.hid hset; clear hset hs l1 o1 b1
      have HB1 := Lib.hid hb; clear hb
      have HG := Lib.hid hg; clear hg
      unfold u64N at c0
      generalize Sc.lw k = lk at *
      go_wp2_with (go_at_call 68; refine (HM.out _).mono ?_; rintro e w' ⟨rfl, rfl⟩)
      go_region_with (simp only [hsub])
      all_goals go_wp2
      go_roundw
      case rel =>
        exact ⟨k + 1, by omega, by go_num, rfl, rfl, gb_drew (gb_set HG.out _ _), by
          have h := HB1.out.set (8 + k) (u64N (Sc.rs n q k))
          rw [HS.out] at h
          exact h.drew⟩
      case measure => simp [intOf]; omega
    · obtain rfl : k = 4 := by omega
      have hO := offO_bd n q hn hq
      rw [off_end] at hb
      have HB1 := Lib.hid hb; clear hb
      have HG := Lib.hid hg; clear hg
      have hE : Hid (Sc.offO n q = Sc.ov q 4 + Sc.bl n q 4) := rfl
      generalize Sc.ov q 4 = o4 at *
      generalize Sc.bl n q 4 = b4 at *
      go_wp2
      go_ret
      exact ⟨by rw [hE.out]; simp, HG.out, HB1.out⟩
theorem back_step (n k : Nat) : ((Sc.wrd n k : Int) + (Sc.lw k : Int) + (Sc.ca n k : Int)) % 18446744073709551616 = (Sc.ps n k : Int) ∧ ((Sc.wrd n k : Int) + (Sc.lw k : Int) + (Sc.ca n k : Int)) / 18446744073709551616 = (Sc.ca n (k + 1) : Int) := by
  have e : Sc.ca n (k + 1) = (Sc.wrd n k + Sc.lw k + Sc.ca n k) / 18446744073709551616 := rfl
  rw [e]
  unfold Sc.ps
  omega
set_option maxHeartbeats 1600000 in
theorem putBack_any (R n : Nat) (T : TypeId) (X : List Value) (w : World) (hX : X.length = 8) (hT : OTab w) (hb : Blk w R T (recL X n)) :
    Calls Tryz.prog 72 #[.pointer (some ⟨R, 0, none⟩)] w fun e w' => e = .returned (.tuple #[]) ∧ w.grownBy w' (some R) ∧ Blk w' R T (recL X (Sc.backN n)) := by
  have t0 := hT.cel 0 (by decide)
  have t1 := hT.cel 1 (by decide)
  have t2 := hT.cel 2 (by decide)
  have t3 := hT.cel 3 (by decide)
  have HT := Lib.hid hT; clear hT
  have HX := Lib.hid hX; clear hX
  rw [← mixL_start X (Sc.ps n) n] at hb
  have HB := Lib.hid hb; clear hb
  unfold u64N at t0 t1 t2 t3
  simp only [Sc.lw] at t0 t1 t2 t3
  go_enter Tryz.func72, Tryz.ntmps72
  go_wp2
  go_loopw [2, 6] (fun o i wr => ∃ k : Nat, k ≤ 4 ∧ i = .int .i64 k ∧ o = .int .u64 (Sc.ca n k : Int) ∧ w.grownBy wr (some R) ∧ Blk wr R T (mixL X (Sc.ps n) (Sc.wrd n) k)) (fun _ i _ => 4 - (intOf i).toNat)
  case atStart => exact ⟨0, by omega, rfl, rfl, gb_refl _ _, HB.out⟩
  case round =>
    obtain ⟨k, hk, rfl, rfl, hg, hb⟩ := hrel
    by_cases hlt : k < 4
    · have hs := back_step n k
      have hset := mixL_set X HX.out (Sc.ps n) (Sc.wrd n) k hlt
      have c0 := hb.cell (mixL_get X HX.out (Sc.ps n) (Sc.wrd n) k hlt)
      have f0 := hb.free (8 + k)
      have hi := order_index k hlt
      have b1 := Sc.ca_le n k
      have hsub := add64c (Sc.wrd n k) (Sc.lw k) (Sc.ca n k) (by omega) (by omega) (by omega) (by omega)
      rw [hs.1, hs.2] at hsub
      have HS := Lib.hid hset; clear hset hs b1
      have HB1 := Lib.hid hb; clear hb
      have HG := Lib.hid hg; clear hg
      unfold u64N at c0
      generalize Sc.lw k = lk at *
      go_wp2
      go_region_with (simp only [hsub])
      all_goals go_wp2
      go_roundw
      case rel =>
        exact ⟨k + 1, by omega, by go_num, rfl, gb_drew (gb_set HG.out _ _), by
          have h := HB1.out.set (8 + k) (u64N (Sc.ps n k))
          rw [HS.out] at h
          exact h.drew⟩
      case measure => simp [intOf]; omega
    · obtain rfl : k = 4 := by omega
      rw [back_end] at hb
      have HB1 := Lib.hid hb; clear hb
      have HG := Lib.hid hg; clear hg
      go_wp2
      go_end0
      exact ⟨rfl, HG.out, HB1.out⟩
end Go.Proofs.YtmnlidfalhjghaaGreatDoor

/- Rows of bytes: what lies below a bound and stays; rows of one's own; appends; parts of slices. -/
namespace Go.Proofs.YtmnlidfalhjghaaGreatDoor
open Go.RowKit
namespace Ow

def u8N (n : Nat) : Value := .int .u8 (n : Int)
/-- a slice of the bytes l, that lie below block B -/
structure BytesAt (w : World) (B : Nat) (a : Option Addr) (cap : Nat) (l : List Nat) : Prop where
  lim : B ≤ w.heap.size
  fits : l.length ≤ cap
  top : cap < 9223372036854775808
  byte : ∀ i, l.getD i 0 < 256
  cells : l.length = 0 ∨ ∃ pb po, a = some ⟨pb, po, none⟩ ∧ pb < B ∧ ∀ i, i < l.length → w.cell? ⟨pb, po + i, none⟩ = some (u8N (l.getD i 0))
theorem BytesAt.kept {w w' : World} {B cap : Nat} {a : Option Addr} {l : List Nat} (h : BytesAt w B a cap l) {row : Option Nat} (hg : w.grownBy w' row) (hr : ∀ r, row = some r → B ≤ r) : BytesAt w' B a cap l := by
  refine ⟨Nat.le_trans h.lim hg.size, h.fits, h.top, h.byte, ?_⟩
  rcases h.cells with h0 | ⟨pb, po, ha, hlt, hc⟩
  · exact Or.inl h0
  · exact Or.inr ⟨pb, po, ha, hlt, fun i hi => by rw [gb_cell hg (p := ⟨pb, po + i, none⟩) (Nat.lt_of_lt_of_le hlt h.lim) (fun e => by have := hr _ e.symm; simp at this; omega)]; exact hc i hi⟩
theorem BytesAt.stay {w w' : World} {B cap : Nat} {a : Option Addr} {l : List Nat} (h : BytesAt w B a cap l) (hg : w.grownBy w' none) : BytesAt w' B a cap l := h.kept hg (fun r e => by cases e)
theorem BytesAt.up {w : World} {B B' cap : Nat} {a : Option Addr} {l : List Nat} (h : BytesAt w B a cap l) (hB : B ≤ B') (hl : B' ≤ w.heap.size) : BytesAt w B' a cap l := by
  refine ⟨hl, h.fits, h.top, h.byte, ?_⟩
  rcases h.cells with h0 | ⟨pb, po, ha, hlt, hc⟩
  · exact Or.inl h0
  · exact Or.inr ⟨pb, po, ha, by omega, hc⟩
theorem u8_getD {l : List Nat} {i : Nat} (h : i < l.length) : (l.map u8N)[i]? = some (u8N (l.getD i 0)) := by
  rw [List.getElem?_map, List.getElem?_eq_getElem h, List.getD_eq_getElem?_getD, List.getElem?_eq_getElem h]; rfl
theorem blk_at (w : World) {B : Nat} (L : List Value) (T : TypeId) (h : w.heap.size = B) : Blk (w.alloc (.cells L.toArray T)) B T L := h ▸ Blk.new w L T
/-- a block of bytes, as a slice -/
theorem blk_bytes {w : World} {N B n cap : Nat} {T : TypeId} {l : List Nat} {tl : List Value} (h : Blk w N T (l.map u8N ++ tl)) (hl : l.length = n) (hc : n ≤ cap) (ht : cap < 9223372036854775808) (hb : ∀ i, l.getD i 0 < 256) (hB : N < B) (hw : B ≤ w.heap.size) :
    BytesAt w B (some ⟨N, 0, none⟩) cap l := by
  subst hl
  refine ⟨hw, hc, ht, hb, Or.inr ⟨N, 0, rfl, hB, fun i hi => ?_⟩⟩
  rw [Nat.zero_add]
  apply h.cell
  rw [List.getElem?_append_left (by simpa using hi)]
  exact u8_getD hi
theorem info_u8 : ∃ i z, Tryz.prog.info? 5 = some i ∧ i.zero = some z ∧ i.size = 1 ∧ i.bytes = 1 ∧ z.cells.size = 1 := by
  have h : (Tryz.prog.info? 5).map (fun i => (i.zero.map (·.cells.size), i.size, i.bytes)) = some (some 1, 1, 1) := by kernel_rfl
  cases hi : Tryz.prog.info? 5 with
  | none => rw [hi] at h; cases h
  | some i =>
    rw [hi] at h
    simp only [Option.map_some, Option.some.injEq, Prod.mk.injEq] at h
    cases hz : i.zero with
    | none => rw [hz] at h; cases h.1
    | some z => rw [hz] at h; exact ⟨i, z, rfl, hz, h.2.1, h.2.2, by simpa using h.1⟩
/-- several elements appended to a row of one's own -/
theorem append_u8 (w : World) (base n m c : Nat) (v : Value) (xs news : List Value) (ad : Addr) (hown : w.ownsRow base 5 1 v n xs) (hl : news.length = m) (hnews : ∀ j u, news[j]? = some u → w.cell? (ad.add j) = some u) (h1 : ∀ u ∈ news, u.oneCell' = true)
    (hn : (n + m) * 1 ≤ 140737488355328) (hbase : base ≤ w.heap.size) :
    ∃ v' w', (Builtin.append_ #[22, 22] 22 #[v, .slice (some ad) m c]).run Tryz.prog w = .ok v' w' ∧ w'.ownsRow base 5 1 v' (n + m) (xs ++ news) ∧ w.grownBy w' v.ownBlock := by
  obtain ⟨i, z, hi, hz, hs, hb, hc⟩ := info_u8
  obtain ⟨v', w', hr, ho, hg, _⟩ := run_append_own w base 22 22 5 i z 1 1 (P := Tryz.prog) Tryz.underlying22 hi hz hs hb hc (by decide) v n xs hown ad m c news (by omega) hnews h1 (by unfold maxLen; omega) hn hbase
  exact ⟨v', w', hr, ho, hg⟩
/-- one element, out of a box that was just made -/
theorem append1_u8 (w : World) (base n : Nat) (v x : Value) (xs : List Value) (hown : w.ownsRow base 5 1 v n xs) (h1 : x.oneCell' = true) (hn : (n + 1) * 1 ≤ 140737488355328) (hbase : base ≤ w.heap.size) :
    ∃ v' w', (Builtin.append_ #[22, 22] 22 #[v, .slice (some ⟨w.heap.size, 0, none⟩) 1 1]).run Tryz.prog (w.alloc (.cells #[x] 5)) = .ok v' w' ∧ w'.ownsRow base 5 1 v' (n + 1) (xs ++ [x]) ∧ w.grownBy w' v.ownBlock := by
  obtain ⟨v', w', hr, ho, hg⟩ := append_u8 (w.alloc (.cells #[x] 5)) base n 1 1 v xs [x] ⟨w.heap.size, 0, none⟩ (hown.alloc _) rfl (fun j u hu => by
    have hj : j = 0 := by
      rcases Nat.eq_zero_or_pos j with h | h
      · exact h
      · rw [List.getElem?_eq_none (by simp; omega)] at hu; cases hu
    subst hj
    rw [show x = u by simpa using hu]
    exact (Blk.new w [u] 5).cell (i := 0) rfl) (fun u hu => by rw [List.mem_singleton.1 hu]; exact h1) hn (by simp; omega)
  exact ⟨v', w', hr, ho, gb_trans (gb_alloc (gb_refl _ _) _) hg⟩

/-- what is written lies in a row of one's own -/
theorem gb_own {w0 w w' : World} {base e n : Nat} {v : Value} {xs : List Value} (h : w0.grownBy w none) (ho : w.ownsRow base e 1 v n xs) (hb : w0.heap.size ≤ base) (hg : w.grownBy w' v.ownBlock) : w0.grownBy w' none :=
  ⟨hg.os.trans h.os, hg.tape.trans h.tape, hg.output.trans h.output, Nat.le_trans h.size hg.size, fun k hk _ => (hg.block k (Nat.lt_of_lt_of_le hk h.size) (fun e => by have := (ho.lt k e.symm).1; omega)).trans (h.block k hk (by simp))⟩
theorem own_drewN {w : World} {base e n : Nat} {v : Value} {xs : List Value} (h : w.ownsRow base e 1 v n xs) (k : Nat) : (w.drewN k).ownsRow base e 1 v n xs := ⟨h.1, h.2⟩
theorem own_some {w : World} {base e n : Nat} {v : Value} {xs : List Value} (h : w.ownsRow base e 1 v n xs) (hn : 0 < n) : ∃ g c, v = .slice (some ⟨g, 0, none⟩) n c ∧ base ≤ g ∧ n ≤ c ∧ c ≤ maxLen ∧ g < w.heap.size := by
  rcases h.2 with ⟨_, h0⟩ | ⟨g, c, cur, rfl, hb, hg, hnc, hcm, _⟩
  · omega
  · exact ⟨g, c, rfl, hb, hnc, hcm, lt_of_block hg⟩
theorem own_cell {w : World} {base e n g c : Nat} {xs : List Value} (h : w.ownsRow base e 1 (.slice (some ⟨g, 0, none⟩) n c) n xs) {j : Nat} {u : Value} (hu : xs[j]? = some u) : w.cell? ⟨g, j, none⟩ = some u := by
  have hl : xs.length = n := by have := h.1; omega
  have hj : j < n := by
    rcases Nat.lt_or_ge j n with h' | h'
    · exact h'
    · rw [List.getElem?_eq_none (by omega)] at hu; cases hu
  rw [h.cellAt j (by omega)]; exact hu

/-- an append whose run is known -/
theorem wpList_append_run {P : Program} {w : World} {ops : Array Oper} {rest : List Oper} {o : Oper} {a : Act} {Q : Exit → Act → World → Prop} (hgd : o.guard = none) (s x : Operand) (t : TypeId)
    (ho : o.op = .call { callee := .builtin .append, args := #[s, x], argTypes := #[t, t] }) (ht : o.type = t) (v y : Value) (hs : a.eval s = v) (hx : a.eval x = y) (v' : Value) (w' : World)
    (hr : (Builtin.append_ #[t, t] t #[v, y]).run P w = .ok v' w') (h : wpList P ops Q rest (a.put o.dst v') w') : wpList P ops Q (o :: rest) a w := by
  refine wpList_plain hgd fun K hK => ?_
  rw [← ht] at hr
  unfold Oper.wp
  simp [execOp, ho, resolve, invoke, builtin, hs, hx, ← ht, hr, Result.andThen]
  exact hK _ _ h
theorem append_none (w : World) (base n c : Nat) (v : Value) (xs : List Value) (hown : w.ownsRow base 5 1 v n xs) :
    (Builtin.append_ #[22, 22] 22 #[v, .slice none 0 c]).run Tryz.prog w = .ok v w := by
  obtain ⟨i, z, hi, hz, hs, hb, hc⟩ := info_u8
  rcases hown.2 with ⟨rfl, rfl⟩ | ⟨g, cap, cur, rfl, _, _, hnc, _⟩
  · simp [Builtin.append_, run_underlying Tryz.underlying22, sizeOf, typeInfo, hi, Builtin.lenOf, Builtin.firstCells]
  · simp [Builtin.append_, run_underlying Tryz.underlying22, sizeOf, typeInfo, hi, Builtin.lenOf, Builtin.firstCells, hnc, storeCells]
theorem own_base {w : World} {b b' e n : Nat} {v : Value} {xs : List Value} (h : w.ownsRow b e 1 v n xs) (hb : b' ≤ b) : w.ownsRow b' e 1 v n xs := by
  refine ⟨h.1, ?_⟩
  rcases h.2 with h' | ⟨g, c, cur, e1, e2, e3⟩
  · exact Or.inl h'
  · exact Or.inr ⟨g, c, cur, e1, Nat.le_trans hb e2, e3⟩
theorem own_kept {w w' : World} {base e n : Nat} {v : Value} {xs : List Value} (h : w.ownsRow base e 1 v n xs) (hg : w.grownBy w' none) : w'.ownsRow base e 1 v n xs :=
  h.kept hg (by cases v.ownBlock <;> simp)
/-- bytes that lie somewhere, appended where there is room -/
theorem append_bytes_fits (w : World) (base g n0 c B cap n : Nat) (xs : List Value) (a : Option Addr) (p : List Nat) (hown : w.ownsRow base 5 1 (.slice (some ⟨g, 0, none⟩) n0 c) n0 xs) (hn : p.length = n) (hP : BytesAt w B a cap p) (hroom : n0 + n ≤ c) :
    ∃ w', (Builtin.append_ #[22, 22] 22 #[.slice (some ⟨g, 0, none⟩) n0 c, .slice a n cap]).run Tryz.prog w = .ok (.slice (some ⟨g, 0, none⟩) (n0 + n) c) w' ∧ w'.ownsRow base 5 1 (.slice (some ⟨g, 0, none⟩) (n0 + n) c) (n0 + n) (xs ++ p.map u8N) ∧ w.grownBy w' (some g) := by
  subst hn
  obtain ⟨i, z, hi, hz, hs, hb, hc⟩ := info_u8
  rcases a with _ | ad
  · have h0 : p.length = 0 := by
      rcases hP.cells with h | ⟨_, _, h, _⟩
      · exact h
      · cases h
    obtain rfl : p = [] := List.eq_nil_of_length_eq_zero h0
    exact ⟨w, append_none w base n0 cap _ xs hown, by simpa using hown, gb_refl _ _⟩
  · refine run_append_fits w base 22 22 5 i 1 (P := Tryz.prog) Tryz.underlying22 hi hs g n0 c xs hown ad p.length cap (p.map u8N) (by simp) (fun j u hu => ?_) (fun u hu => ?_) hroom
    · rcases hP.cells with h | ⟨pb, po, h, _, hc⟩
      · obtain rfl : p = [] := List.eq_nil_of_length_eq_zero h
        simp at hu
      · cases h
        have hj : j < p.length := by
          rcases Nat.lt_or_ge j p.length with h | h
          · exact h
          · rw [List.getElem?_eq_none (by simpa using h)] at hu; cases hu
        have hadd : (⟨pb, po, none⟩ : Addr).add j = ⟨pb, po + j, none⟩ := by unfold Addr.add; split <;> simp_all
        rw [hadd, hc j hj, ← hu, u8_getD hj]
    · obtain ⟨x, _, rfl⟩ := List.mem_map.1 hu
      rfl
/-- .. and where there may be none -/
theorem append_bytes (w : World) (base n0 B cap n : Nat) (v : Value) (xs : List Value) (a : Option Addr) (p : List Nat) (hown : w.ownsRow base 5 1 v n0 xs) (hn : p.length = n) (hP : BytesAt w B a cap p)
    (hb : n0 + n ≤ 140737488355328) (hbase : base ≤ w.heap.size) :
    ∃ v' w', (Builtin.append_ #[22, 22] 22 #[v, .slice a n cap]).run Tryz.prog w = .ok v' w' ∧ w'.ownsRow base 5 1 v' (n0 + n) (xs ++ p.map u8N) ∧ w.grownBy w' v.ownBlock := by
  subst hn
  rcases a with _ | ad
  · have h0 : p.length = 0 := by
      rcases hP.cells with h | ⟨_, _, h, _⟩
      · exact h
      · cases h
    obtain rfl : p = [] := List.eq_nil_of_length_eq_zero h0
    exact ⟨v, w, append_none w base n0 cap _ xs hown, by simpa using hown, gb_refl _ _⟩
  · refine append_u8 w base n0 p.length cap v xs (p.map u8N) ad hown (by simp) (fun j u hu => ?_) (fun u hu => ?_) (by omega) hbase
    · rcases hP.cells with h | ⟨pb, po, h, _, hc⟩
      · obtain rfl : p = [] := List.eq_nil_of_length_eq_zero h
        simp at hu
      · cases h
        have hj : j < p.length := by
          rcases Nat.lt_or_ge j p.length with h | h
          · exact h
          · rw [List.getElem?_eq_none (by simpa using h)] at hu; cases hu
        have hadd : (⟨pb, po, none⟩ : Addr).add j = ⟨pb, po + j, none⟩ := by unfold Addr.add; split <;> simp_all
        rw [hadd, hc j hj, ← hu, u8_getD hj]
    · obtain ⟨x, _, rfl⟩ := List.mem_map.1 hu
      rfl
/-- one byte, out of a box that was just made, where there is room -/
theorem append_byte_fits (w : World) (base g n0 c x : Nat) (xs : List Value) (hx : x < 256) (hown : w.ownsRow base 5 1 (.slice (some ⟨g, 0, none⟩) n0 c) n0 xs) (hroom : n0 + 1 ≤ c) :
    ∃ w', (Builtin.append_ #[22, 22] 22 #[.slice (some ⟨g, 0, none⟩) n0 c, .slice (some ⟨w.heap.size, 0, none⟩) 1 1]).run Tryz.prog (w.alloc (.cells #[u8N x] 5)) = .ok (.slice (some ⟨g, 0, none⟩) (n0 + 1) c) w' ∧ w'.ownsRow base 5 1 (.slice (some ⟨g, 0, none⟩) (n0 + 1) c) (n0 + 1) (xs ++ [u8N x]) ∧ w.grownBy w' (some g) := by
  have hb := Blk.new w [u8N x] 5
  have hp : BytesAt (w.alloc (.cells #[u8N x] 5)) (w.heap.size + 1) (some ⟨w.heap.size, 0, none⟩) 1 [x] :=
    blk_bytes (l := [x]) (n := 1) (tl := []) hb rfl (by omega) (by omega) (fun i => by cases i <;> simp; omega) (by omega) (by simp)
  obtain ⟨w', hr, ho, hg⟩ := append_bytes_fits (w.alloc (.cells #[u8N x] 5)) base g n0 c (w.heap.size + 1) 1 1 xs _ [x] (hown.alloc _) rfl hp hroom
  exact ⟨w', hr, ho, gb_trans (gb_alloc (gb_refl _ _) _) hg⟩
set_option maxRecDepth 100000 in
/-- x[lo:hi] of a slice of bytes -/
theorem slice_run (a : Option Addr) (n cap lo k : Nat) (h : lo + k ≤ cap) :
    ∃ a', (∀ w, (Instr.slice 22 (.slice a n cap) (some (.int .i64 (lo : Int))) (some (.int .i64 ((lo : Int) + (k : Int)))) none).run Tryz.prog w = .ok (.slice a' k (cap - lo)) w) ∧ (lo < cap → ∀ pb po, a = some ⟨pb, po, none⟩ → a' = some ⟨pb, po + lo, none⟩) := by
  obtain ⟨j, hj, hs⟩ : ∃ j, Tryz.prog.info? (Tryz.prog.elem 22) = some j ∧ j.size = 1 := by
    have h1 : (Tryz.prog.info? (Tryz.prog.elem 22)).map (·.size) = some 1 := by kernel_rfl
    cases hq : Tryz.prog.info? (Tryz.prog.elem 22) with
    | none => rw [hq] at h1; cases h1
    | some j => rw [hq] at h1; exact ⟨j, rfl, by simpa using h1⟩
  have e1 : ((lo : Int) + (k : Int)).toNat = lo + k := by omega
  refine ⟨if cap = lo then a else a.map (·.add lo), fun w => ?_, ?_⟩
  · rw [run_slice_lh w 22 a n cap Tryz.underlying22 .i64 .i64 _ _ (by omega) (by omega) (by omega), e1, Int.toNat_natCast]
    simp [sizeOf, typeInfo, hj, hs, sliced]
  · intro hlt pb po e
    rw [if_neg (by omega), e]
    simp [Addr.add]

set_option maxRecDepth 100000 in
/-- x[lo:] of a slice of bytes -/
theorem slice_from (a : Option Addr) (n cap lo : Nat) (h : lo ≤ n) :
    ∃ a', (∀ w, (Instr.slice 22 (.slice a n cap) (some (.int .i64 (lo : Int))) none none).run Tryz.prog w = .ok (.slice a' (n - lo) (cap - lo)) w) ∧ (lo < cap → ∀ pb po, a = some ⟨pb, po, none⟩ → a' = some ⟨pb, po + lo, none⟩) := by
  obtain ⟨j, hj, hs⟩ : ∃ j, Tryz.prog.info? (Tryz.prog.elem 22) = some j ∧ j.size = 1 := by
    have h1 : (Tryz.prog.info? (Tryz.prog.elem 22)).map (·.size) = some 1 := by kernel_rfl
    cases hq : Tryz.prog.info? (Tryz.prog.elem 22) with
    | none => rw [hq] at h1; cases h1
    | some j => rw [hq] at h1; exact ⟨j, rfl, by simpa using h1⟩
  refine ⟨if cap = lo then a else a.map (·.add lo), fun w => ?_, ?_⟩
  · rw [run_slice_l w 22 a n cap Tryz.underlying22 .i64 _ (by omega) (by omega), Int.toNat_natCast]
    simp [sizeOf, typeInfo, hj, hs, sliced]
  · intro hlt pb po e
    rw [if_neg (by omega), e]
    simp [Addr.add]

end Ow
end Go.Proofs.YtmnlidfalhjghaaGreatDoor

/- scalar: fill, narrowOf, load, bytes. -/
namespace Go.Proofs.YtmnlidfalhjghaaGreatDoor
open Go.RowKit Ow

theorem some_ne' {a b : Nat} (h : a ≠ b) : some a ≠ some b := fun e => h (Option.some.inj e)
def wds (n m : Nat) : List Value := (List.range m).map (wV n)
theorem wds_get (n m j : Nat) (h : j < m) (tl : List Value) : (wds n m ++ tl)[j]? = some (wV n j) := by
  unfold wds
  rw [List.getElem?_append_left (by simpa using h), List.getElem?_map, List.getElem?_range h]; rfl
theorem wds_set (n n' m j : Nat) (h : j < m) (tl : List Value) (v : Nat) (hj : Sc.wrd n' j = v) (ho : ∀ i, i ≠ j → Sc.wrd n' i = Sc.wrd n i) : (wds n m ++ tl).set j (u64N v) = wds n' m ++ tl := by
  unfold wds
  rw [List.set_append_left _ _ (by simpa using h)]
  congr 1
  apply List.ext_getElem?
  intro i
  rw [List.getElem?_set, List.length_map, List.length_range]
  by_cases hi : i < m
  · rw [List.getElem?_map, List.getElem?_map, List.getElem?_range hi]
    by_cases e : j = i
    · subst e; simp [hi, wV, hj]
    · simp [e, wV, ho i (fun h => e h.symm)]
  · rw [if_neg (by omega), List.getElem?_eq_none (by simp; omega), List.getElem?_eq_none (by simp; omega)]
theorem fill_bits (o x r : Nat) (hx : x < 256) (hr : r < 8) (ho : o < 2 ^ (8 * r)) : bits .or .u64 (o : Int) (IntKind.u64.wrap ((x : Int) * 2 ^ (8 * r))) = ((o + x * 2 ^ (8 * r) : Nat) : Int) := by
  have hb : (2 : Nat) ^ (8 * r) * 256 ≤ 18446744073709551616 := by
    have : (2 : Nat) ^ (8 * r) * 256 = 2 ^ (8 * r + 8) := by rw [Nat.pow_add]
    rw [this, show (18446744073709551616 : Nat) = 2 ^ 64 by rfl]
    exact Nat.pow_le_pow_right (by decide) (by omega)
  have h1 : x * 2 ^ (8 * r) + 2 ^ (8 * r) ≤ 2 ^ (8 * r) * 256 := by
    have := Nat.mul_le_mul_right (2 ^ (8 * r)) (show x + 1 ≤ 256 by omega)
    rw [Nat.add_mul, Nat.one_mul, Nat.mul_comm 256] at this; exact this
  have e1 : (x : Int) * 2 ^ (8 * r) = ((2 ^ (8 * r) * x : Nat) : Int) := by rw [Int.natCast_mul, Int.natCast_pow, Int.mul_comm]; rfl
  rw [Nat.mul_comm] at h1
  have e2 : IntKind.u64.wrap ((x : Int) * 2 ^ (8 * r)) = ((2 ^ (8 * r) * x : Nat) : Int) := by
    rw [e1, IntKind.wrap_u64]
    generalize 2 ^ (8 * r) * x = y at *
    generalize 2 ^ (8 * r) = z at *
    omega
  rw [e2, u64_or_nat _ _ (by omega) (by omega), Nat.or_comm, ← Nat.two_pow_add_eq_or_of_lt ho, Nat.mul_comm x, Nat.add_comm]
set_option maxHeartbeats 1600000 in
theorem fill_some (WB m len cap pb po : Nat) (T : TypeId) (tl : List Value) (f : Nat → Nat) (w : World) (hf : ∀ i, f i < 256) (hm : len ≤ 8 * m) (hm2 : m ≤ 8) (hne : pb ≠ WB) (hlt : pb < w.heap.size) (hlc : len ≤ cap)
    (hc : ∀ i, i < len → w.cell? ⟨pb, po + i, none⟩ = some (.int .u8 (f i))) (hb : Blk w WB T (wds 0 m ++ tl)) :
    Calls Tryz.prog 38 #[.slice (some ⟨WB, 0, none⟩) m m, .slice (some ⟨pb, po, none⟩) len cap] w fun e w' => e = .returned (.tuple #[]) ∧ w.grownBy w' (some WB) ∧ Blk w' WB T (wds (Sc.leN f len) m ++ tl) := by
  have HC := Lib.hid hc; clear hc
  have HF := Lib.hid hf; clear hf
  have HB := Lib.hid hb; clear hb
  go_enter Tryz.func38, Tryz.ntmps38
  go_wp2
  go_loopw [8] (fun i wr => ∃ k : Nat, k ≤ len ∧ i = .int .i64 k ∧ w.grownBy wr (some WB) ∧ Blk wr WB T (wds (Sc.leN f k) m ++ tl)) (fun i _ => len - (intOf i).toNat)
  case atStart => exact ⟨0, by omega, rfl, gb_refl _ _, HB.out⟩
  case round =>
    obtain ⟨k, hk, rfl, hg, hb⟩ := hrel
    by_cases hkl : k < len
    · obtain ⟨d, hd⟩ : ∃ d, d = k / 8 := ⟨_, rfl⟩
      obtain ⟨r, hr⟩ : ∃ r, r = k % 8 := ⟨_, rfl⟩
      have hd2 : (k : Int) / 8 = (d : Int) := by omega
      have hr2 : (k : Int) % 8 = (r : Int) := by omega
      have dm : d < m := by omega
      have r8 : r < 8 := by omega
      have hs := Sc.fill_same f HF.out k
      rw [← hd, ← hr] at hs
      have hso := Sc.fill_other f HF.out k
      rw [← hd] at hso
      have hv := fill_bits (Sc.wrd (Sc.leN f k) d) (f k) r (HF.out k) r8 hs.2
      have hset := wds_set (Sc.leN f k) (Sc.leN f (k + 1)) m d dm tl _ hs.1 hso
      have HS := Lib.hid (And.intro hv hset); clear hv hset hs hso hd hr
      have c0 := hb.cell (wds_get (Sc.leN f k) m d dm tl)
      have f0 := hb.free d
      have c1 : wr.cell? ⟨pb, po + k, none⟩ = some (.int .u8 (f k)) := by rw [gb_cell hg (p := ⟨pb, po + k, none⟩) hlt (some_ne' hne)]; exact HC.out k hkl
      have fk := HF.out k
      have HB1 := Lib.hid hb; clear hb
      have HG := Lib.hid hg; clear hg
      unfold wV u64N at c0
      go_wp2
      go_region
      all_goals go_wp2
      go_roundw
      case rel =>
        refine ⟨k + 1, by omega, by go_num, gb_drew (gb_set HG.out _ _), ?_⟩
        have h := HB1.out.set d (u64N (Sc.wrd (Sc.leN f k) d + f k * 2 ^ (8 * r)))
        rw [HS.out.2] at h
        unfold u64N at h
        rw [← HS.out.1] at h
        exact h.drew
      case measure => simp [intOf]; omega
    · obtain rfl : k = len := by omega
      have HB1 := Lib.hid hb; clear hb
      have HG := Lib.hid hg; clear hg
      go_wp2
      go_end0
      exact ⟨rfl, HG.out, HB1.out⟩
theorem fill_none (WB m cap : Nat) (a : Option Addr) (w : World) :
    Calls Tryz.prog 38 #[.slice (some ⟨WB, 0, none⟩) m m, .slice a 0 cap] w fun e w' => e = .returned (.tuple #[]) ∧ w' = w := by
  go_enter Tryz.func38, Tryz.ntmps38
  go_wp2
  go_loopw [8] (fun i wr => i = .int .i64 0 ∧ wr = w) (fun _ _ => 0)
  case atStart => exact ⟨rfl, rfl⟩
  case round =>
    obtain ⟨rfl, rfl⟩ := hrel
    go_wp2
    go_end0
    exact ⟨rfl, rfl⟩
/-- the number of bytes -/
def num (l : List Nat) : Nat := Sc.leN (fun i => l.getD i 0) l.length
theorem fill_any (WB m len cap B : Nat) (T : TypeId) (tl : List Value) (a : Option Addr) (l : List Nat) (w : World) (hl : l.length = len) (hm : len ≤ 8 * m) (hm2 : m ≤ 8) (hP : BytesAt w B a cap l) (hB : B ≤ WB) (hb : Blk w WB T (wds 0 m ++ tl)) :
    Calls Tryz.prog 38 #[.slice (some ⟨WB, 0, none⟩) m m, .slice a len cap] w fun e w' => e = .returned (.tuple #[]) ∧ w.grownBy w' (some WB) ∧ Blk w' WB T (wds (num l) m ++ tl) := by
  subst hl
  rcases hP.cells with h0 | ⟨pb, po, rfl, hlt, hc⟩
  · have hz : num l = 0 := by unfold num; rw [h0]; rfl
    rw [h0, hz]
    refine (fill_none WB m cap a w).mono ?_
    rintro e w' ⟨rfl, rfl⟩
    exact ⟨rfl, gb_refl _ _, hb⟩
  · exact fill_some WB m l.length cap pb po T tl _ w hP.byte hm hm2 (by omega) (Nat.lt_of_lt_of_le hlt hP.lim) hP.fits hc hb
theorem wds4 (n : Nat) : wds n 4 = [wV n 0, wV n 1, wV n 2, wV n 3] := rfl
theorem wds8 (n : Nat) : wds n 8 = [wV n 0, wV n 1, wV n 2, wV n 3, wV n 4, wV n 5, wV n 6, wV n 7] := rfl
theorem wV0 (j : Nat) : wV 0 j = .int .u64 0 := by unfold wV Sc.wrd u64N; simp
def narrowV (n : Nat) : Value := .agg #[wV n 0, wV n 1, wV n 2, wV n 3]
set_option maxHeartbeats 1600000 in
theorem narrowOf_any (len cap B : Nat) (a : Option Addr) (l : List Nat) (w : World) (hl : l.length = len) (hm : len ≤ 32) (hP : BytesAt w B a cap l) :
    Calls Tryz.prog 36 #[.slice a len cap] w fun e w' => e = .returned (narrowV (num l)) ∧ w.grownBy w' none := by
  have HP := Lib.hid hP; clear hP
  have hlen := Lib.hid hl; clear hl
  go_enter Tryz.func36, Tryz.ntmps36
  go_wp2_with fail
  have hb : Blk ((w.alloc (.cells #[.int .u64 0, .int .u64 0, .int .u64 0, .int .u64 0] 44)).alloc (.cells #[.int .u64 0, .int .u64 0, .int .u64 0, .int .u64 0] 44)) (w.heap.size + 1) 44 (wds 0 4 ++ []) := by
    rw [wds4, wV0, wV0, wV0, wV0]
    exact blk_at (w.alloc _) [.int .u64 0, .int .u64 0, .int .u64 0, .int .u64 0] _ (by simp)
  have hr : Blk ((w.alloc (.cells #[.int .u64 0, .int .u64 0, .int .u64 0, .int .u64 0] 44)).alloc (.cells #[.int .u64 0, .int .u64 0, .int .u64 0, .int .u64 0] 44)) w.heap.size 44 [.int .u64 0, .int .u64 0, .int .u64 0, .int .u64 0] := (Blk.new w [.int .u64 0, .int .u64 0, .int .u64 0, .int .u64 0] _).alloc _
  have hg := gb_alloc (gb_alloc (gb_refl w none) (.cells #[.int .u64 0, .int .u64 0, .int .u64 0, .int .u64 0] 44)) (.cells #[.int .u64 0, .int .u64 0, .int .u64 0, .int .u64 0] 44)
  revert hb hr hg
  generalize (w.alloc (.cells #[.int .u64 0, .int .u64 0, .int .u64 0, .int .u64 0] 44)).alloc (.cells #[.int .u64 0, .int .u64 0, .int .u64 0, .int .u64 0] 44) = w1
  intro hb hr hg
  refine (fill_any (w.heap.size + 1) 4 len cap B _ [] a l w1 hlen.out hm (by omega) (HP.out.stay hg) (by have := HP.out.lim; omega) hb).mono ?_
  rintro e w2 ⟨rfl, hg2, hb2⟩
  have hg3 := gb_then hg hg2 (by omega)
  have hr2 := hr.grown hg2 (some_ne' (by omega))
  have HG := Lib.hid hg3; clear hg3 hg2 hg hr hb
  rw [wds4] at hb2
  have c0 := hb2.cell (i := 0) rfl
  have c1 := hb2.cell (i := 1) rfl
  have c2 := hb2.cell (i := 2) rfl
  have c3 := hb2.cell (i := 3) rfl
  have r0 := hr2.cell (i := 0) rfl
  have r1 := hr2.cell (i := 1) rfl
  have r2 := hr2.cell (i := 2) rfl
  have r3 := hr2.cell (i := 3) rfl
  have f0 := hr2.free 0
  have f1 := hr2.free 1
  have f2 := hr2.free 2
  have f3 := hr2.free 3
  clear hr2 hb2
  unfold wV u64N at c0 c1 c2 c3
  go_wp2
  refine bodyPost_ret (v := narrowV (num l)) ?_ rfl ⟨rfl, ?_⟩
  · simp [results, Tryz.results36, go_sem, r0, r1, r2, r3, narrowV, wV, u64N]
  · exact gb_set_new (gb_set_new (gb_set_new (gb_set_new HG.out (Nat.le_refl _) _) (Nat.le_refl _) _) (Nat.le_refl _) _) (Nat.le_refl _) _
end Go.Proofs.YtmnlidfalhjghaaGreatDoor

/- scalar: a number's 32 bytes. -/
namespace Go.Proofs.YtmnlidfalhjghaaGreatDoor
open Go.RowKit Ow

/-- the first k bytes of a number -/
def bytesN (n k : Nat) : List Nat := (List.range k).map (Sc.byt n)
theorem bytesN_length (n k : Nat) : (bytesN n k).length = k := by simp [bytesN]
theorem bytesN_succ (n k : Nat) : bytesN n (k + 1) = bytesN n k ++ [Sc.byt n k] := by simp [bytesN, List.range_succ]
theorem bytesN_get (n k i : Nat) (h : i < k) : (bytesN n k).getD i 0 = Sc.byt n i := by
  unfold bytesN; rw [List.getD_eq_getElem?_getD, List.getElem?_map, List.getElem?_range h]; rfl
theorem bytesN_lt (n k i : Nat) : (bytesN n k).getD i 0 < 256 := by
  by_cases h : i < k
  · rw [bytesN_get n k i h]; exact Sc.byt_lt _ _
  · rw [List.getD_eq_getElem?_getD, List.getElem?_eq_none (by rw [bytesN_length]; omega)]; decide
theorem num_bytesN (n k : Nat) : num (bytesN n k) = n % 2 ^ (8 * k) := by
  unfold num
  rw [bytesN_length, ← Sc.leN_byt n k]
  exact Sc.leN_congr _ _ _ fun i hi => bytesN_get n k i hi
theorem word_byte (n j i : Nat) (hi : i < 8) : Sc.wrd n j / 2 ^ (8 * i) % 256 = Sc.byt n (8 * j + i) := by
  have e : (18446744073709551616 : Nat) = 2 ^ (8 * i) * (256 * 2 ^ (56 - 8 * i)) := by
    rw [show (256 : Nat) = 2 ^ 8 by rfl, ← Nat.pow_add, ← Nat.pow_add, show (18446744073709551616 : Nat) = 2 ^ 64 by rfl]; congr 1; omega
  unfold Sc.wrd Sc.byt
  rw [e, Nat.mod_mul_right_div_self, Nat.mod_mul_right_mod, Nat.div_div_eq_div_mul, ← Nat.pow_add]
  congr 3; omega
theorem info_u8' : ∃ i z, Tryz.prog.info? 5 = some i ∧ i.zero = some z ∧ i.size = 1 ∧ i.bytes = 1 ∧ z.cells.size = 1 := Ow.info_u8
set_option maxRecDepth 100000 in
set_option maxHeartbeats 1600000 in
theorem nbytes_any (n : Nat) (w : World) :
    Calls Tryz.prog 26 #[narrowV n] w fun e w' => ∃ g, e = .returned (.slice (some ⟨g, 0, none⟩) 32 32) ∧ w.grownBy w' none ∧ w'.ownsRow w.heap.size 5 1 (.slice (some ⟨g, 0, none⟩) 32 32) 32 ((bytesN n 32).map u8N) := by
  obtain ⟨i, z, hi, hz, hs, hb, hc⟩ := Ow.info_u8
  obtain ⟨w1, hmk, ho1, hg1⟩ := run_make_own (w.alloc (.cells #[wV n 0, wV n 1, wV n 2, wV n 3] 44)) w.heap.size 22 5 i z 1 (P := Tryz.prog) Tryz.underlying22 hi hz hs .i64 .i64 32 (by rw [hb]; omega) (by unfold maxLen; omega) (by simp)
  have hsz : (w.alloc (.cells #[wV n 0, wV n 1, wV n 2, wV n 3] 44)).heap.size = w.heap.size + 1 := by simp
  rw [hsz] at hmk ho1
  have hmk' : (Instr.makeSlice 22 (.int .i64 0) (.int .i64 32)).run Tryz.prog (w.alloc (.cells #[wV n 0, wV n 1, wV n 2, wV n 3] 44)) = .ok (.slice (some ⟨w.heap.size + 1, 0, none⟩) 0 32) w1 := hmk
  clear hmk
  have hg01 := gb_trans (gb_alloc (gb_refl w none) _) hg1
  have hbx := (Blk.new w [wV n 0, wV n 1, wV n 2, wV n 3] 44).grown hg1 (by simp)
  have HO := Lib.hid (And.intro ho1 hg01); clear ho1 hg01 hg1 hi hz hs hb hc hsz
  have hidx : ∀ j : Nat, j < 4 → ∀ w, (Instr.index 44 (.agg #[wV n 0, wV n 1, wV n 2, wV n 3]) (.int .i64 j)).run Tryz.prog w = .ok (.int .u64 (Sc.wrd n j : Int)) w := by
    intro j hj w
    obtain rfl | rfl | rfl | rfl : j = 0 ∨ j = 1 ∨ j = 2 ∨ j = 3 := by omega
    all_goals kernel_rfl
  unfold wV u64N at hmk' hidx hbx
  have c0 := hbx.cell (i := 0) rfl
  have c1 := hbx.cell (i := 1) rfl
  have c2 := hbx.cell (i := 2) rfl
  have c3 := hbx.cell (i := 3) rfl
  have HIX := Lib.hid hidx; clear hidx hbx
  unfold narrowV wV u64N
  go_enter Tryz.func26, Tryz.ntmps26
  go_wp2
  go_loopw [3, 8] (fun v i wr => ∃ j m : Nat, j ≤ 4 ∧ m = 8 * j ∧ i = .int .i64 j ∧ v = .slice (some ⟨w.heap.size + 1, 0, none⟩) m 32 ∧ wr.ownsRow w.heap.size 5 1 (.slice (some ⟨w.heap.size + 1, 0, none⟩) m 32) m ((bytesN n m).map u8N) ∧ w.grownBy wr none) (fun _ i _ => 4 - (intOf i).toNat)
  case atStart => exact ⟨0, 0, by omega, rfl, rfl, rfl, HO.out.1, HO.out.2⟩
  case round =>
    obtain ⟨j, m, hj, hm, rfl, rfl, hown, hg⟩ := hrel
    by_cases hlt : j < 4
    · have hix := HIX.out j hlt
      have HI := Lib.hid (And.intro hown (And.intro hg hm)); clear hown hg hm
      obtain ⟨y, hy⟩ : ∃ y, y = Sc.wrd n j := ⟨_, rfl⟩
      have hyl : y < 18446744073709551616 := by rw [hy]; exact Sc.wrd_lt n j
      rw [← hy] at hix
      have HY := Lib.hid hy; clear hy
      have i0 : (j : Int) < 4 := by omega
      go_wp2
      go_loopw [3, 5, 11] (fun v y i wr => ∃ k m' x : Nat, k ≤ 8 ∧ m' = 8 * j + k ∧ x = Sc.wrd n j / 2 ^ (8 * k) ∧ i = .int .i64 k ∧ y = .int .u64 x ∧ v = .slice (some ⟨w.heap.size + 1, 0, none⟩) m' 32 ∧ wr.ownsRow w.heap.size 5 1 (.slice (some ⟨w.heap.size + 1, 0, none⟩) m' 32) m' ((bytesN n m').map u8N) ∧ w.grownBy wr none) (fun _ _ i _ => 8 - (intOf i).toNat)
      case atStart => exact ⟨0, m, y, by omega, by rw [HI.out.2.2]; rfl, by rw [HY.out]; simp, rfl, rfl, rfl, HI.out.1, HI.out.2.1⟩
      case round =>
        clear HI hix HY hyl
        obtain ⟨k, m', x, hk, hm', hx, rfl, rfl, rfl, hown, hg⟩ := hrel
        by_cases hkl : k < 8
        · obtain ⟨b, hb⟩ : ∃ b, b = Sc.byt n m' := ⟨_, rfl⟩
          have hbl : b < 256 := by rw [hb]; exact Sc.byt_lt _ _
          have he : (x : Int) % 256 = (b : Int) := by
            have := word_byte n j k hkl
            rw [← hm', ← hx, ← hb] at this
            omega
          have hxl : x < 18446744073709551616 := by rw [hx]; exact Nat.lt_of_le_of_lt (Nat.div_le_self _ _) (Sc.wrd_lt n j)
          obtain ⟨w3, hap, ho3, hg3⟩ := append_byte_fits wr w.heap.size (w.heap.size + 1) m' 32 b _ hbl hown (by omega)
          have hg4 := gb_then hg hg3 (by omega)
          have hq : ((bytesN n m').map u8N) ++ [u8N b] = (bytesN n (m' + 1)).map u8N := by rw [bytesN_succ, hb, List.map_append]; rfl
          rw [hq] at ho3
          have hx2 : ((x / 256 : Nat) : Int) = (x : Int) / 256 := by omega
          have hx3 : x / 256 = Sc.wrd n j / 2 ^ (8 * (k + 1)) := by
            rw [hx, Nat.div_div_eq_div_mul, show 8 * (k + 1) = 8 * k + 8 by omega, Nat.pow_add]
          unfold u8N at hap
          have HI := Lib.hid (And.intro hap (And.intro ho3 (And.intro hg4 (And.intro hm' (And.intro hx2 hx3))))); clear hap ho3 hg4 hg3 hm' hx2 hx3 hx hb hown hg hq
          have i0 : (k : Int) < 8 := by omega
          go_wp2_with (at_builtin; refine wpList_append_run rfl (.tmp 13) (.tmp 16) 22 rfl rfl _ _ rfl rfl _ _ HI.out.1 ?_)
          go_roundw
          case rel => exact ⟨k + 1, m' + 1, x / 256, by omega, by have := HI.out.2.2.2.1; omega, HI.out.2.2.2.2.2, by go_num, by rw [HI.out.2.2.2.2.1], rfl, HI.out.2.1, HI.out.2.2.1⟩
          case measure => simp [intOf]; omega
        · obtain rfl : k = 8 := by omega
          have HI := Lib.hid (And.intro hown (And.intro hg hm')); clear hown hg hm' hx
          go_wp2
          go_roundw
          case rel => exact ⟨j + 1, m', by omega, by have := HI.out.2.2; omega, by go_num, rfl, HI.out.1, HI.out.2.1⟩
          case measure => simp [intOf]; omega
    · obtain rfl : j = 4 := by omega
      obtain rfl : m = 32 := by omega
      have HI := Lib.hid (And.intro hown hg); clear hown hg hm
      go_wp2
      go_ret
      exact ⟨_, rfl, HI.out.2, HI.out.1⟩
end Go.Proofs.YtmnlidfalhjghaaGreatDoor

/- scalar's document: the mathematics: numbers by bytes compared, doubled, less one another; products by bytes. -/
namespace Go.Proofs.YtmnlidfalhjghaaGreatDoor
open Go.RowKit Ow
namespace Sr
theorem leN_cmp (f g : Nat → Nat) (hf : ∀ i, f i < 256) (hg : ∀ i, g i < 256) (i : Nat) : ∀ n, i < n → (∀ j, i < j → j < n → f j = g j) → f i ≠ g i → (Sc.leN f n < Sc.leN g n ↔ f i < g i) := by
  intro n
  induction n with
  | zero => intro h; omega
  | succ n ih =>
    intro hi he hne
    have h1 := Sc.leN_lt f hf n
    have h2 := Sc.leN_lt g hg n
    rw [Sc.leN, Sc.leN]
    by_cases e : i = n
    · subst e
      constructor
      · intro h
        rcases Nat.lt_or_ge (f i) (g i) with h3 | h3
        · exact h3
        · have := Nat.mul_le_mul_right (2 ^ (8 * i)) (show g i + 1 ≤ f i by omega)
          rw [Nat.add_mul, Nat.one_mul] at this
          omega
      · intro h
        have := Nat.mul_le_mul_right (2 ^ (8 * i)) (show f i + 1 ≤ g i by omega)
        rw [Nat.add_mul, Nat.one_mul] at this
        omega
    · have := ih (by omega) (fun j h1 h2 => he j h1 (by omega)) hne
      rw [he n (by omega) (by omega)]
      omega
theorem num_is (l : List Nat) (n : Nat) (hl : l.length = n) : num l = Sc.leN (fun i => l.getD i 0) n := by unfold num; rw [hl]
/-- the first unlike byte from above tells which one is less -/
theorem less_at (a b : List Nat) (n i : Nat) (ha : a.length = n) (hb : b.length = n) (hba : ∀ i, a.getD i 0 < 256) (hbb : ∀ i, b.getD i 0 < 256) (hi : i < n) (he : ∀ j, i < j → j < n → a.getD j 0 = b.getD j 0) (hne : a.getD i 0 ≠ b.getD i 0) : decide (num a < num b) = decide (a.getD i 0 < b.getD i 0) := by
  rw [num_is a n ha, num_is b n hb, Bool.eq_iff_iff, decide_eq_true_iff, decide_eq_true_iff]
  exact leN_cmp _ _ hba hbb i n hi he hne
theorem less_none (a b : List Nat) (n : Nat) (ha : a.length = n) (hb : b.length = n) (he : ∀ j, j < n → a.getD j 0 = b.getD j 0) : decide (num a < num b) = false := by
  rw [num_is a n ha, num_is b n hb, Sc.leN_congr _ _ n (fun i hi => he i hi)]
  exact decide_eq_false (Nat.lt_irrefl _)
theorem div_next (n k : Nat) : n / 2 ^ (8 * (k + 1)) = n / 2 ^ (8 * k) / 256 := by
  rw [show 8 * (k + 1) = 8 * k + 8 by omega, Nat.pow_add, Nat.div_div_eq_div_mul]
theorem div_at (l : List Nat) (hb : ∀ i, l.getD i 0 < 256) (k : Nat) (hk : k < l.length) : num l / 2 ^ (8 * k) % 256 = l.getD k 0 := Sc.byt_leN (fun i => l.getD i 0) hb l.length k hk
/-- what is carried into byte k of twice a number and a bit -/
def cry (a : List Nat) (bit : Nat) : Nat → Nat
  | 0 => bit
  | k + 1 => a.getD k 0 / 128
theorem cry_le (a : List Nat) (bit : Nat) (hb : ∀ i, a.getD i 0 < 256) (h : bit ≤ 1) (k : Nat) : cry a bit k ≤ 1 := by
  cases k with
  | zero => exact h
  | succ k => have := hb k; show a.getD k 0 / 128 ≤ 1; omega
theorem dbl_div (a : List Nat) (bit : Nat) (hb : ∀ i, a.getD i 0 < 256) (h : bit ≤ 1) : ∀ k, k ≤ a.length → (2 * num a + bit) / 2 ^ (8 * k) = 2 * (num a / 2 ^ (8 * k)) + cry a bit k := by
  intro k
  induction k with
  | zero => intro _; simp [cry]
  | succ k ih =>
    intro hk
    have h1 := ih (by omega)
    have h2 := div_at a hb k (by omega)
    have h3 := cry_le a bit hb h k
    have h4 := hb k
    rw [div_next, h1, div_next]
    show _ = _ + a.getD k 0 / 128
    generalize num a / 2 ^ (8 * k) = X at *
    omega
theorem dbl_byt (a : List Nat) (bit : Nat) (hb : ∀ i, a.getD i 0 < 256) (h : bit ≤ 1) (k : Nat) (hk : k < a.length) : Sc.byt (2 * num a + bit) k = 2 * a.getD k 0 % 256 + cry a bit k := by
  have h1 := dbl_div a bit hb h k (by omega)
  have h2 := div_at a hb k hk
  have h3 := cry_le a bit hb h k
  unfold Sc.byt
  rw [h1]
  generalize num a / 2 ^ (8 * k) = X at *
  omega
/-- what is borrowed -/
def brw (a b : List Nat) : Nat → Nat
  | 0 => 0
  | k + 1 => if a.getD k 0 < b.getD k 0 + brw a b k then 1 else 0
theorem brw_le (a b : List Nat) (k : Nat) : brw a b k ≤ 1 := by
  cases k with
  | zero => exact Nat.zero_le _
  | succ k => unfold brw; split <;> omega
theorem sub_div (a b : List Nat) (n : Nat) (ha : a.length = n) (hb : b.length = n) (hba : ∀ i, a.getD i 0 < 256) (hbb : ∀ i, b.getD i 0 < 256) (h : num b ≤ num a) : ∀ k, k ≤ n → num a / 2 ^ (8 * k) = num b / 2 ^ (8 * k) + (num a - num b) / 2 ^ (8 * k) + brw a b k := by
  intro k
  induction k with
  | zero => intro _; simp [brw]; omega
  | succ k ih =>
    intro hk
    have h1 := ih (by omega)
    have h2 := div_at a hba k (by omega)
    have h3 := div_at b hbb k (by omega)
    have h4 := hba k
    have h5 := hbb k
    have h6 := brw_le a b k
    rw [div_next, div_next, div_next]
    show _ = _ + _ + (if a.getD k 0 < b.getD k 0 + brw a b k then 1 else 0)
    generalize num a / 2 ^ (8 * k) = X at *
    generalize num b / 2 ^ (8 * k) = Y at *
    generalize (num a - num b) / 2 ^ (8 * k) = Z at *
    split <;> omega
theorem sub_byt (a b : List Nat) (n k : Nat) (ha : a.length = n) (hb : b.length = n) (hba : ∀ i, a.getD i 0 < 256) (hbb : ∀ i, b.getD i 0 < 256) (h : num b ≤ num a) (hk : k < n) : Sc.byt (num a - num b) k + b.getD k 0 + brw a b k = a.getD k 0 + 256 * brw a b (k + 1) := by
  have h1 := sub_div a b n ha hb hba hbb h k (by omega)
  have h2 := div_at a hba k (by omega)
  have h3 := div_at b hbb k (by omega)
  have h4 := hba k
  have h5 := hbb k
  have h6 := brw_le a b k
  unfold Sc.byt
  show _ = _ + 256 * (if a.getD k 0 < b.getD k 0 + brw a b k then 1 else 0)
  generalize num a / 2 ^ (8 * k) = X at *
  generalize num b / 2 ^ (8 * k) = Y at *
  generalize (num a - num b) / 2 ^ (8 * k) = Z at *
  split <;> omega
/-- a number of n bytes is the one of its bytes -/
theorem num_of (n k : Nat) (h : n < 2 ^ (8 * k)) : num (bytesN n k) = n := by rw [num_bytesN, Nat.mod_eq_of_lt h]
theorem lt_pow (n k : Nat) (h : n < 3 * Sc.L) (hk : 256 ≤ k) : n < 2 ^ k := by
  have h1 : 3 * Sc.L ≤ 2 ^ 256 := by decide
  have h2 : (2 : Nat) ^ 256 ≤ 2 ^ k := Nat.pow_le_pow_right (by decide) hk
  exact Nat.lt_of_lt_of_le h (Nat.le_trans h1 h2)
theorem lt33 (n : Nat) (h : n < 3 * Sc.L) : n < 2 ^ (8 * 33) := by
  have h2 := lt_pow n (8 * 33) h (by decide)
  exact h2
theorem bytes_prefix (n : Nat) (h : n < 2 ^ (8 * 32)) : bytesN n 33 = bytesN n 32 ++ [0] := by
  rw [bytesN_succ]
  unfold Sc.byt
  rw [Nat.div_eq_of_lt h]
/-- the rest, bit by bit -/
theorem rest_bit (N i : Nat) : N / 2 ^ i % Sc.L = (2 * (N / 2 ^ (i + 1) % Sc.L) + N / 2 ^ i % 2) % Sc.L := by
  have e : N / 2 ^ i = 2 * (N / 2 ^ (i + 1)) + N / 2 ^ i % 2 := by rw [Nat.pow_succ, ← Nat.div_div_eq_div_mul]; omega
  have e2 : (2 * (N / 2 ^ (i + 1) % Sc.L) + N / 2 ^ i % 2) % Sc.L = (2 * (N / 2 ^ (i + 1)) + N / 2 ^ i % 2) % Sc.L := by
    rw [Nat.add_mod, Nat.mul_mod, Nat.mod_mod, ← Nat.mul_mod, ← Nat.add_mod]
  rw [e2, ← e]
theorem rest_less (d : Nat) (h : d < Sc.L) : d % Sc.L = d := Nat.mod_eq_of_lt h
theorem rest_sub (d : Nat) (h : ¬ d < Sc.L) (h2 : d < 2 * Sc.L) : d % Sc.L = d - Sc.L := by
  rw [Nat.mod_eq_sub_mod (by omega), Nat.mod_eq_of_lt (by omega)]
/-- bit i of a number, out of its bytes -/
theorem bit_byte (l : List Nat) (hb : ∀ i, l.getD i 0 < 256) (i : Nat) (hi : i < 8 * l.length) : l.getD (i / 8) 0 / 2 ^ (i % 8) % 2 = num l / 2 ^ i % 2 := by
  have h := div_at l hb (i / 8) (by omega)
  rw [← h]
  have e1 : (2 : Nat) ^ i = 2 ^ (8 * (i / 8)) * 2 ^ (i % 8) := by rw [← Nat.pow_add]; congr 1; omega
  rw [e1, ← Nat.div_div_eq_div_mul]
  generalize num l / 2 ^ (8 * (i / 8)) = x
  have e2 : (256 : Nat) = 2 ^ (i % 8) * (2 * 2 ^ (7 - i % 8)) := by
    rw [show (2 : Nat) * 2 ^ (7 - i % 8) = 2 ^ (7 - i % 8 + 1) by rw [Nat.pow_succ, Nat.mul_comm], ← Nat.pow_add, show i % 8 + (7 - i % 8 + 1) = 8 by omega]
  rw [e2, Nat.mod_mul_right_div_self, Nat.mod_mul_right_mod]
/-! ### sums of parts that are no bytes -/
/-- the value of parts -/
def val (t : List Nat) : Nat := Sc.leN (fun i => t.getD i 0) t.length
theorem leN_add (f g : Nat → Nat) (i d : Nat) (he : ∀ j, j ≠ i → g j = f j) (hi : g i = f i + d) : ∀ n, i < n → Sc.leN g n = Sc.leN f n + d * 2 ^ (8 * i) := by
  intro n
  induction n with
  | zero => intro h; omega
  | succ n ih =>
    intro h
    rw [Sc.leN, Sc.leN]
    by_cases e : i = n
    · subst e
      rw [Sc.leN_congr g f i (fun j hj => he j (by omega)), hi, Nat.add_mul]; omega
    · rw [ih (by omega), he n (by omega)]; omega
theorem getD_set (t : List Nat) (i x j : Nat) (hi : i < t.length) : (t.set i x).getD j 0 = if j = i then x else t.getD j 0 := by
  rw [List.getD_eq_getElem?_getD, List.getElem?_set]
  by_cases h : i = j
  · subst h; simp [hi]
  · rw [if_neg h, if_neg (fun e => h e.symm), List.getD_eq_getElem?_getD]
theorem val_add (t : List Nat) (i d : Nat) (hi : i < t.length) : val (t.set i (t.getD i 0 + d)) = val t + d * 2 ^ (8 * i) := by
  unfold val
  rw [List.length_set]
  refine leN_add _ _ i d (fun j hj => ?_) ?_ _ hi
  · show (t.set i _).getD j 0 = _; rw [getD_set t i _ j hi, if_neg hj]
  · show (t.set i _).getD i 0 = _; rw [getD_set t i _ i hi, if_pos rfl]
theorem val_zero (n : Nat) : val (List.replicate n 0) = 0 := by
  unfold val
  have : ∀ k, Sc.leN (fun i => (List.replicate n (0 : Nat)).getD i 0) k = 0 := by
    intro k
    induction k with
    | zero => rfl
    | succ k ih =>
      rw [Sc.leN, ih]
      have : (List.replicate n (0 : Nat)).getD k 0 = 0 := by rw [List.getD_eq_getElem?_getD, List.getElem?_replicate]; split <;> rfl
      rw [this]; simp
  exact this _
/-- what is carried into part k -/
def car (t : List Nat) : Nat → Nat
  | 0 => 0
  | k + 1 => (car t k + t.getD k 0) / 256
theorem car_is (t : List Nat) : ∀ k, k ≤ t.length → Sc.leN (fun i => (car t i + t.getD i 0) % 256) k + car t k * 2 ^ (8 * k) = Sc.leN (fun i => t.getD i 0) k := by
  intro k
  induction k with
  | zero => intro _; simp [Sc.leN, car]
  | succ k ih =>
    intro hk
    have h := ih (by omega)
    rw [Sc.leN, Sc.leN, ← h]
    show Sc.leN _ k + (car t k + t.getD k 0) % 256 * 2 ^ (8 * k) + (car t k + t.getD k 0) / 256 * 2 ^ (8 * (k + 1)) = _
    have e : (2 : Nat) ^ (8 * (k + 1)) = 256 * 2 ^ (8 * k) := by rw [show 8 * (k + 1) = 8 * k + 8 by omega, Nat.pow_add, Nat.mul_comm]
    have e2 : (car t k + t.getD k 0) % 256 * 2 ^ (8 * k) + (car t k + t.getD k 0) / 256 * (256 * 2 ^ (8 * k)) = (car t k + t.getD k 0) * 2 ^ (8 * k) := by
      rw [← Nat.mul_assoc, ← Nat.add_mul]; congr 1; omega
    rw [e, Nat.add_assoc, e2, Nat.add_mul]; omega
theorem car_le (t : List Nat) (b : Nat) (h : ∀ i, t.getD i 0 ≤ b) : ∀ k, car t k ≤ b := by
  intro k
  induction k with
  | zero => exact Nat.zero_le _
  | succ k ih => have := h k; unfold car; omega
/-- the bytes of parts, carried -/
def carB (t : List Nat) (k : Nat) : List Nat := (List.range k).map fun i => (car t i + t.getD i 0) % 256
theorem carB_length (t : List Nat) (k : Nat) : (carB t k).length = k := by simp [carB]
theorem carB_succ (t : List Nat) (k : Nat) : carB t (k + 1) = carB t k ++ [(car t k + t.getD k 0) % 256] := by simp [carB, List.range_succ]
theorem carB_get (t : List Nat) (k i : Nat) (h : i < k) : (carB t k).getD i 0 = (car t i + t.getD i 0) % 256 := by
  unfold carB; rw [List.getD_eq_getElem?_getD, List.getElem?_map, List.getElem?_range h]; rfl
theorem carB_lt (t : List Nat) (k i : Nat) : (carB t k).getD i 0 < 256 := by
  by_cases h : i < k
  · rw [carB_get t k i h]; omega
  · rw [List.getD_eq_getElem?_getD, List.getElem?_eq_none (by rw [carB_length]; omega)]; decide
theorem carB_num (t : List Nat) (h : val t < 2 ^ (8 * t.length)) : num (carB t t.length) = val t := by
  have h1 := car_is t t.length (Nat.le_refl _)
  have h2 : Sc.leN (fun i => (carB t t.length).getD i 0) t.length = Sc.leN (fun i => (car t i + t.getD i 0) % 256) t.length := Sc.leN_congr _ _ _ fun i hi => carB_get t _ i hi
  rw [num_is _ _ (carB_length t _), h2]
  unfold val at h ⊢
  have h3 : car t t.length = 0 := by
    rcases Nat.eq_zero_or_pos (car t t.length) with h0 | h0
    · exact h0
    · have := Nat.mul_le_mul_right (2 ^ (8 * t.length)) h0
      omega
  rw [h3] at h1
  omega
end Sr
end Go.Proofs.YtmnlidfalhjghaaGreatDoor

/- scalar: bringDown: a word is put below the rest, and orders are taken off. -/
namespace Go.Proofs.YtmnlidfalhjghaaGreatDoor
open Go.RowKit

theorem recL_get (X : List Value) (hX : X.length = 8) (n : Nat) : (recL X n)[8]? = some (wV n 0) ∧ (recL X n)[9]? = some (wV n 1) ∧ (recL X n)[10]? = some (wV n 2) ∧ (recL X n)[11]? = some (wV n 3) := by
  unfold recL
  refine ⟨?_, ?_, ?_, ?_⟩ <;> (rw [List.getElem?_append_right (by omega), hX]; rfl)
theorem down_set (X : List Value) (hX : X.length = 8) (n x : Nat) (hx : x < 18446744073709551616) :
    ((((recL X n).set 8 (u64N x)).set 9 (wV n 0)).set 10 (wV n 1)).set 11 (wV n 2) = recL X (Sc.down n x) := by
  obtain ⟨h0, h1, h2, h3, _⟩ := Sc.down_words n x hx
  unfold recL wV
  rw [h0, h1, h2, h3]
  rw [List.set_append_right _ _ (by omega), List.set_append_right _ _ (by omega), List.set_append_right _ _ (by omega), List.set_append_right _ _ (by omega), hX]
  rfl
set_option maxHeartbeats 1600000 in
theorem bringDown_any (R n x : Nat) (T : TypeId) (X : List Value) (w : World) (hX : X.length = 8) (hx : x < 18446744073709551616) (hT : OTab w) (hR : 0 < R) (hb : Blk w R T (recL X n)) :
    Calls Tryz.prog 40 #[.pointer (some ⟨R, 0, none⟩), .int .u64 x] w fun e w' => e = .returned (.tuple #[]) ∧ w.grownBy w' (some R) ∧ Blk w' R T (recL X (Sc.restN n x)) := by
  obtain ⟨g0, g1, g2, g3⟩ := recL_get X hX n
  have c0 := hb.cell g0
  have c1 := hb.cell g1
  have c2 := hb.cell g2
  have c3 := hb.cell g3
  have f0 := hb.free 8
  have f1 := hb.free 9
  have f2 := hb.free 10
  have f3 := hb.free 11
  clear g0 g1 g2 g3
  have HS := Lib.hid (down_set X hX n x hx)
  have HX := Lib.hid hX; clear hX
  have HT := Lib.hid hT; clear hT
  have HB := Lib.hid hb; clear hb
  unfold wV u64N at c0 c1 c2 c3
  go_enter Tryz.func40, Tryz.ntmps40
  go_wp2
  go_region
  all_goals go_wp2_with fail
  have hb1 := (((((HB.out.set 8 (u64N x)).set 9 (wV n 0)).set 10 (wV n 1)).set 11 (wV n 2))).drew
  have hg1 := gb_drew (gb_set (gb_set (gb_set (gb_set (gb_refl w (some R)) 8 (u64N x)) 9 (wV n 0)) 10 (wV n 1)) 11 (wV n 2))
  rw [HS.out] at hb1
  unfold wV u64N at hb1 hg1
  revert hb1 hg1
  generalize ((((w.setCell ⟨R, 8, none⟩ (Value.int IntKind.u64 (x : Int))).setCell ⟨R, 9, none⟩ (Value.int IntKind.u64 (Sc.wrd n 0 : Int))).setCell ⟨R, 10, none⟩ (Value.int IntKind.u64 (Sc.wrd n 1 : Int))).setCell ⟨R, 11, none⟩ (Value.int IntKind.u64 (Sc.wrd n 2 : Int))).drew = w1
  intro hb1 hg1
  have HB1 := Lib.hid hb1; clear hb1 HB
  have HG1 := Lib.hid hg1; clear hg1
  clear c0 c1 c2 c3 f0 f1 f2 f3
  refine (sguess_any (Sc.wrd n 3) (Sc.wrd n 2) w1 (Sc.wrd_lt n 3) (Sc.wrd_lt n 2)).mono ?_
  rintro e w' ⟨rfl, rfl⟩
  have hgl := Sc.guess_lt (Sc.wrd n 3) (Sc.wrd n 2) (Sc.wrd_lt n 2)
  have hT1 := HT.out.kept HG1.out (fun r e => by cases e; exact hR)
  have ht := takeOff_any R (Sc.down n x) (Sc.guessN (Sc.wrd n 3) (Sc.wrd n 2)) T X w1 HX.out (Sc.down_words n x hx).2.2.2.2 hgl hT1 HB1.out
  have hr : Hid (Sc.restN n x = if Sc.wrd n 3 < Sc.offO (Sc.down n x) (Sc.guessN (Sc.wrd n 3) (Sc.wrd n 2)) then Sc.backN (Sc.offN (Sc.down n x) (Sc.guessN (Sc.wrd n 3) (Sc.wrd n 2))) else Sc.offN (Sc.down n x) (Sc.guessN (Sc.wrd n 3) (Sc.wrd n 2))) := rfl
  clear hgl hT1
  generalize Sc.guessN (Sc.wrd n 3) (Sc.wrd n 2) = q at *
  generalize Sc.offO (Sc.down n x) q = o at *
  generalize Sc.offN (Sc.down n x) q = m at *
  generalize Sc.wrd n 3 = top at *
  have HTO := Lib.hid ht; clear ht
  by_cases hlt : top < o
  · have hlt' : decide ((top : Int) < (o : Int)) = true := by simpa using hlt
    go_wp2_with fail
    refine HTO.out.mono ?_
    rintro e w2 ⟨rfl, hg2, hb2⟩
    have HG2 := Lib.hid (gb_trans HG1.out hg2); clear hg2
    have HB2 := Lib.hid hb2; clear hb2
    go_wp2_with fail
    refine (putBack_any R m T X w2 HX.out (HT.out.kept HG2.out (fun r e => by cases e; exact hR)) HB2.out).mono ?_
    rintro e w3 ⟨rfl, hg3, hb3⟩
    have HG3 := Lib.hid (gb_trans HG2.out hg3); clear hg3
    have HB3 := Lib.hid hb3; clear hb3
    go_wp2
    go_end0
    exact ⟨rfl, HG3.out, by rw [hr.out, if_pos hlt]; exact HB3.out⟩
  · have hlt' : decide ((top : Int) < (o : Int)) = false := by simpa using hlt
    go_wp2_with fail
    refine HTO.out.mono ?_
    rintro e w2 ⟨rfl, hg2, hb2⟩
    have HG2 := Lib.hid (gb_trans HG1.out hg2); clear hg2
    have HB2 := Lib.hid hb2; clear hb2
    go_wp2
    go_end0
    exact ⟨rfl, HG2.out, by rw [hr.out, if_neg hlt]; exact HB2.out⟩
end Go.Proofs.YtmnlidfalhjghaaGreatDoor

/- scalar: modulo: a number's words are brought down one by one, from the highest on (slices.Backward). -/
namespace Go.Proofs.YtmnlidfalhjghaaGreatDoor
open Go.RowKit Ow Go.Shelf
attribute [local go_sem] Oper.semAt_some

/-- a place and a word -/
abbrev PW := { x : Nat × Nat // x.2 < 18446744073709551616 }
def pwE (x : PW) : Array Value := #[.int .i64 (x.1.1 : Int), .int .u64 (x.1.2 : Int)]
/-- the k highest of eight words -/
def downTo (N k : Nat) : List PW := (List.range k).map fun p => ⟨(7 - p, Sc.wrd N (7 - p)), Sc.wrd_lt _ _⟩
theorem downTo_succ (N k : Nat) : downTo N (k + 1) = downTo N k ++ [⟨(7 - k, Sc.wrd N (7 - k)), Sc.wrd_lt _ _⟩] := by simp [downTo, List.range_succ]
theorem downTo_length (N k : Nat) : (downTo N k).length = k := by simp [downTo]
def KeepsR (R Bs : Nat) (W W' : World) : Prop := (∀ j, j < 8 → W'.cell? ⟨R, j, none⟩ = W.cell? ⟨R, j, none⟩) ∧ W'.cell? ⟨Bs, 0, none⟩ = W.cell? ⟨Bs, 0, none⟩
theorem keepsR_t {R Bs : Nat} {A B C : World} (h : KeepsR R Bs A B) (k : KeepsR R Bs B C) : KeepsR R Bs A C := ⟨fun j hj => (k.1 j hj).trans (h.1 j hj), k.2.trans h.2⟩
theorem keepsR_b {R Bs n : Nat} (hR : R < n) (hB : Bs < n) (W : World) (l : Nat) (o o' : Obj) (hl : n ≤ l) (h : W.heap[l]? = some o) : KeepsR R Bs W (W.putObj l o') := by
  have hlt : l < W.heap.size := (Array.getElem?_eq_some_iff.1 h).1
  exact ⟨fun j _ => gb_cell (grownBy_putObj' W l o') (p := ⟨R, j, none⟩) (show R < _ by omega) (some_ne' (by show R ≠ l; omega)), gb_cell (grownBy_putObj' W l o') (p := ⟨Bs, 0, none⟩) (show Bs < _ by omega) (some_ne' (by show Bs ≠ l; omega))⟩
set_option maxHeartbeats 1000000 in
theorem backward_in (F : Fence) (n : Nat) (hf : F.fn 39) (hro : F.round = none) (a : Option Addr) (len cap : Nat) (w : World) :
    CallsIn F n Tryz.prog 39 #[.slice a len cap] w fun e w' => e = .returned (.func (.func 69) #[] #[.pointer (some ⟨w.heap.size, 0, none⟩)]) ∧ w' = w.alloc (.cells #[.slice a len cap] 87) := by
  refine callsIn_of_wp Tryz.func39 rfl hf ?_ hro
  simp only [Tryz.ntmps39, List.size_toArray, List.length_cons, List.length_nil, Nat.reduceAdd, Nat.reduceSub, Array.replicate_succ, Array.replicate_zero, List.push_toArray, List.append_toArray, List.nil_append, List.cons_append]
  gi_wp2
  go_ret
  exact ⟨rfl, rfl⟩
set_option maxRecDepth 100000 in
set_option maxHeartbeats 2000000 in
theorem backward1_in (F : Fence) (n : Nat) (hf : F.fn 69) (hro : F.round = none) (hn : 1 ≤ n) (l Bs R N : Nat) (J Jx : List PW → World → Prop)
    (hY : ∀ pre x W, J pre W → pre.length < 8 → YieldAt F (n - 1) Tryz.prog l (pwE x) W fun e W' =>
      (e = .returned (.bool true) ∧ J (pre ++ [x]) W' ∧ KeepsR R Bs W W') ∨ (e = .returned (.bool false) ∧ Jx (pre ++ [x]) W'))
    (W : World) (hBs : W.cell? ⟨Bs, 0, none⟩ = some (.slice (some ⟨R, 0, none⟩) 8 8)) (hc : ∀ j, j < 8 → W.cell? ⟨R, j, none⟩ = some (.int .u64 (Sc.wrd N j : Int))) (h0 : J [] W) :
    CallsIn F n Tryz.prog 69 #[.func (.yield l) #[] #[], .pointer (some ⟨Bs, 0, none⟩)] W fun e W' => (∃ v, e = .returned v) ∧
      ((∃ ys, ys = downTo N 8 ∧ J ys W') ∨ (∃ pre, True ∧ Jx pre W')) := by
  refine callsIn_of_wp Tryz.func69 rfl hf ?_ hro
  simp only [Tryz.ntmps69, List.size_toArray, List.length_cons, List.length_nil, Nat.reduceAdd, Nat.reduceSub, Array.replicate_succ, Array.replicate_zero, List.push_toArray, List.append_toArray, List.nil_append, List.cons_append]
  gi_wp2
  gi_loopw [3] (fun i wr => ((∃ m : Nat, m < 8 ∧ i = .int .i64 m ∧ J (downTo N (7 - m)) wr) ∨ (i = .int .i64 (-1) ∧ J (downTo N 8) wr)) ∧ KeepsR R Bs W wr)
    (fun i _ => (intOf i + 1).toNat)
  case atStart => exact ⟨Or.inl ⟨7, by omega, rfl, h0⟩, ⟨fun _ _ => rfl, rfl⟩⟩
  case round =>
    obtain ⟨⟨m, hm, rfl, hJs⟩ | ⟨rfl, hJs⟩, hnx⟩ := hrel
    · have hb1 : wr.cell? ⟨Bs, 0, none⟩ = some (.slice (some ⟨R, 0, none⟩) 8 8) := hnx.2.trans hBs
      have hcx : wr.cell? ⟨R, m, none⟩ = some (.int .u64 (Sc.wrd N m : Int)) := (hnx.1 m hm).trans (hc m hm)
      obtain ⟨fn, tmps, assign, body, hy, hR⟩ := hY _ ⟨(m, Sc.wrd N m), Sc.wrd_lt _ _⟩ wr hJs (by rw [downTo_length]; omega)
      unfold pwE at hy
      dsimp only at hy
      gi_wp2
      refine hR.mono ?_
      rintro e W3 (⟨rfl, hJ3, hk3⟩ | ⟨rfl, hJx3⟩)
      · have hJ4 : J (downTo N (7 - m + 1)) W3 := by
          rw [downTo_succ]
          have e7 : 7 - (7 - m) = m := by omega
          simp only [e7]
          exact hJ3
        gi_wp2
        go_roundw
        case rel =>
          refine ⟨?_, keepsR_t hnx hk3⟩
          rcases Nat.eq_zero_or_pos m with h | h
          · subst h; exact Or.inr ⟨rfl, hJ4⟩
          · obtain ⟨d, rfl⟩ : ∃ d, m = d + 1 := ⟨m - 1, by omega⟩
            have e : 7 - (d + 1) + 1 = 7 - d := by omega
            rw [e] at hJ4
            exact Or.inl ⟨d, by omega, by go_num, hJ4⟩
        case measure => simp [intOf]
      · gi_wp2
        refine bodyPost_ret (results_none rfl _ _ _) rfl ?_
        exact ⟨⟨_, rfl⟩, .inr ⟨_, trivial, hJx3⟩⟩
    · gi_wp2
      go_end0
      exact ⟨⟨_, rfl⟩, .inl ⟨_, rfl, hJs⟩⟩
theorem backward_stops (F : Fence) (n : Nat) (hf : F.fn 69) (hro : F.round = none) (hn : 1 ≤ n) (Bs R N : Nat) (w : World) (hBs : Bs < w.heap.size) (hR : R < w.heap.size)
    (hb : w.cell? ⟨Bs, 0, none⟩ = some (.slice (some ⟨R, 0, none⟩) 8 8)) (hc : ∀ j, j < 8 → w.cell? ⟨R, j, none⟩ = some (.int .u64 (Sc.wrd N j : Int))) :
    SeqStopsK F n Tryz.prog 69 #[.pointer (some ⟨Bs, 0, none⟩)] pwE (KeepsR R Bs) (fun ys => ys = downTo N 8) (fun _ => True) 8 w := fun l J Jx W hW _ _ hY h0 =>
  backward1_in F n hf hro hn l Bs R N J Jx hY W ((hW.cell (p := ⟨Bs, 0, none⟩) hBs).trans hb) (fun j hj => (hW.cell (p := ⟨R, j, none⟩) hR).trans (hc j hj)) h0
/-- the rest behind some words -/
def foldG (g : Nat → Nat → Nat) (pre : List PW) : Nat := pre.foldl (fun r x => g r x.1.2) 0
theorem foldG_snoc (g : Nat → Nat → Nat) (pre : List PW) (x : PW) : foldG g (pre ++ [x]) = g (foldG g pre) x.1.2 := by
  unfold foldG
  rw [List.foldl_append]
  rfl
abbrev fold (pre : List PW) : Nat := foldG Sc.restN pre
theorem fold_snoc (pre : List PW) (x : PW) : fold (pre ++ [x]) = Sc.restN (fold pre) x.1.2 := foldG_snoc Sc.restN pre x
theorem fold_down (N k : Nat) (hN : N / 2 ^ (64 * 8) = 0) (hk : k ≤ 8) : fold (downTo N k) = N / 2 ^ (64 * (8 - k)) % Sc.L := by
  induction k with
  | zero => rw [show 8 - 0 = 8 from rfl, hN, Nat.zero_mod]; rfl
  | succ k ih =>
    rw [downTo_succ, fold_snoc, ih (by omega)]
    have h := Sc.rest_step N (7 - k)
    rw [show 7 - k + 1 = 8 - k by omega] at h
    rw [show 8 - (k + 1) = 7 - k by omega]
    exact h
theorem blk_from {w w' : World} {B : Nat} {T : TypeId} {L : List Value} {row : Option Nat} {n : Nat} (h : Blk w B T L) (hg : w.grownBy w' row) (hr : ∀ r, row = some r → n ≤ r ∧ ∃ o : Obj, w.heap[r]? = some o ∧ o.isCells = false) : Blk w' B T L := by
  refine h.grown hg ?_
  intro e
  obtain ⟨_, o, ho, hc⟩ := hr B e.symm
  unfold Blk at h
  rw [h] at ho
  cases ho
  simp [Obj.isCells] at hc
theorem gb_from {a b c : World} {row row' : Option Nat} (h : a.grownBy b row) (k : b.grownBy c row') (hr : ∀ r, row' = some r → a.heap.size ≤ r) : a.grownBy c row := by
  cases row' with
  | none => exact gb_trans h (gb_row k _)
  | some r => exact gb_then h k (hr r rfl)
/-- what holds between two words -/
structure ModI (w : World) (R N : Nat) (T : TypeId) (pre : List PW) (W : World) : Prop where
  rest : Blk W R T (recL (wds N 8) (fold pre))
  tab : OTab W
  box : Blk W w.heap.size 88 [.pointer (some ⟨R, 0, none⟩)]
  res : Blk W (w.heap.size + 1) 44 [.int .u64 0, .int .u64 0, .int .u64 0, .int .u64 0]
  grown : w.grownBy W (some R)
  size : w.heap.size + 3 ≤ W.heap.size
theorem modI_own (w : World) (R N : Nat) (T : TypeId) (n : Nat) (hn : w.heap.size ≤ n) (ht : 0 < w.heap.size) : OwnFrom n (ModI w R N T) := fun s A B row h hg hr =>
  ⟨blk_from h.rest hg hr, h.tab.kept hg (fun r e => by have := (hr r e).1; omega), blk_from h.box hg hr, blk_from h.res hg hr, gb_from h.grown hg (fun r e => by have := (hr r e).1; omega), Nat.le_trans h.size hg.size⟩
theorem recL_put (X : List Value) (hX : X.length = 8) (a b c d : Value) : ((((X ++ [a, b, c, d]).set 8 (.int .u64 0)).set 9 (.int .u64 0)).set 10 (.int .u64 0)).set 11 (.int .u64 0) = recL X 0 := by
  unfold recL
  rw [wV0, wV0, wV0, wV0, List.set_append_right _ _ (by omega), List.set_append_right _ _ (by omega), List.set_append_right _ _ (by omega), List.set_append_right _ _ (by omega), hX]
  rfl
set_option maxRecDepth 100000 in
set_option maxHeartbeats 2000000 in
theorem modulo_any (R N : Nat) (T : TypeId) (a b c d : Value) (w : World) (hN : N / 2 ^ (64 * 8) = 0) (hT : OTab w) (hR : 0 < R) (hb : Blk w R T (wds N 8 ++ [a, b, c, d])) :
    Calls Tryz.prog 25 #[.pointer (some ⟨R, 0, none⟩)] w fun e w' => e = .returned (narrowV (N % Sc.L)) ∧ w.grownBy w' (some R) ∧ Blk w' R T (recL (wds N 8) (N % Sc.L)) := by
  have hRl := hb.lt
  have k0 := hb.cell (i := 8) rfl
  have k1 := hb.cell (i := 9) rfl
  have k2 := hb.cell (i := 10) rfl
  have k3 := hb.cell (i := 11) rfl
  have f0 := hb.free 8
  have f1 := hb.free 9
  have f2 := hb.free 10
  have f3 := hb.free 11
  have HB := Lib.hid hb; clear hb
  have HT := Lib.hid hT; clear hT
  have HN := Lib.hid hN; clear hN
  refine (callsIn_wide (n := 9)).1 ?_
  refine callsIn_of_wp_marks Tryz.func25 rfl trivial ?_ rfl
  simp only [Tryz.ntmps25, List.size_toArray, List.length_cons, List.length_nil, Nat.reduceAdd, Nat.reduceSub, Array.replicate_succ, Array.replicate_zero, List.push_toArray, List.append_toArray, List.nil_append, List.cons_append]
  gi_wp2_with fail
  refine ⟨trivial, ?_⟩
  have hb1 := ((((HB.out.set 8 (.int .u64 0)).set 9 (.int .u64 0)).set 10 (.int .u64 0)).set 11 (.int .u64 0))
  have hg1 := gb_set (gb_set (gb_set (gb_set (gb_refl w (some R)) 8 (.int .u64 0)) 9 (.int .u64 0)) 10 (.int .u64 0)) 11 (.int .u64 0)
  rw [recL_put (wds N 8) rfl a b c d] at hb1
  have hs1 : ((((w.setCell ⟨R, 8, none⟩ (.int .u64 0)).setCell ⟨R, 9, none⟩ (.int .u64 0)).setCell ⟨R, 10, none⟩ (.int .u64 0)).setCell ⟨R, 11, none⟩ (.int .u64 0)).heap.size = w.heap.size := by simp [World.setCell]
  clear k0 k1 k2 k3 f0 f1 f2 f3 HB
  revert hb1 hg1 hs1
  generalize (((w.setCell ⟨R, 8, none⟩ (.int .u64 0)).setCell ⟨R, 9, none⟩ (.int .u64 0)).setCell ⟨R, 10, none⟩ (.int .u64 0)).setCell ⟨R, 11, none⟩ (.int .u64 0) = w1
  intro hb1 hg1 hs1
  have hX := blk_at w1 (B := w.heap.size) [.pointer (some ⟨R, 0, none⟩)] 88 hs1
  have hY := blk_at (w1.alloc (.cells #[.pointer (some ⟨R, 0, none⟩)] 88)) (B := w.heap.size + 1) [.int .u64 0, .int .u64 0, .int .u64 0, .int .u64 0] 44 (by simp [hs1])
  have hX2 := hX.alloc (.cells #[.int .u64 0, .int .u64 0, .int .u64 0, .int .u64 0] 44)
  have hb2 := (hb1.alloc (.cells #[.pointer (some ⟨R, 0, none⟩)] 88)).alloc (.cells #[.int .u64 0, .int .u64 0, .int .u64 0, .int .u64 0] 44)
  have hg2 := gb_alloc (gb_alloc hg1 (.cells #[.pointer (some ⟨R, 0, none⟩)] 88)) (.cells #[.int .u64 0, .int .u64 0, .int .u64 0, .int .u64 0] 44)
  have hs2 : ((w1.alloc (.cells #[.pointer (some ⟨R, 0, none⟩)] 88)).alloc (.cells #[.int .u64 0, .int .u64 0, .int .u64 0, .int .u64 0] 44)).heap.size = w.heap.size + 2 := by simp [hs1]
  clear hX hb1 hg1 hs1
  revert hX2 hY hb2 hg2 hs2
  generalize (w1.alloc (.cells #[.pointer (some ⟨R, 0, none⟩)] 88)).alloc (.cells #[.int .u64 0, .int .u64 0, .int .u64 0, .int .u64 0] 44) = w2
  intro hY hX2 hb2 hg2 hs2
  refine (backward_in Fence.wide 8 trivial rfl _ _ _ _).mono ?_
  rintro e w3 ⟨rfl, hw3⟩
  have hI : ModI w R N T [] w3 := by
    subst hw3
    exact ⟨hb2.alloc _, HT.out.kept (gb_alloc hg2 _) (fun r e => by cases e; exact hR), hX2.alloc _, hY.alloc _, gb_alloc hg2 _, by simp [hs2]⟩
  have hBs : Blk w3 (w.heap.size + 2) 87 [.slice (some ⟨R, 0, none⟩) 8 8] := by
    subst hw3
    exact blk_at w2 [.slice (some ⟨R, 0, none⟩) 8 8] _ hs2
  have hs3 : w3.heap.size = w.heap.size + 3 := by subst hw3; simp [hs2]
  rw [hs2]
  clear hw3 hX2 hY hb2 hg2 hs2
  have HI := Lib.hid hI; clear hI
  gi_wp2_with fail
  have hRN : ∀ j, j < 8 → w3.cell? ⟨R, j, none⟩ = some (.int .u64 (Sc.wrd N j : Int)) := fun j hj => HI.out.rest.cell (wds_get N 8 j hj _)
  have hO : 0 < w.heap.size := by omega
  refine wpIn_rangeFunc_ownG (F := Fence.wide) (n := 9) rfl (by decide) (gf := 69) (lb := #[.pointer (some ⟨w.heap.size + 2, 0, none⟩)]) rfl trivial (enters_of Tryz.func69 (by kernel_rfl) rfl)
    (w0 := w3) (backward_stops Fence.wide 8 trivial rfl (by decide) (w.heap.size + 2) R N w3 (by omega) (by omega) (hBs.cell (i := 0) rfl) hRN)
    (fun h k => keepsR_t h k) (fun W l o o' hl h _ _ => keepsR_b (n := w3.heap.size) (by omega) (by omega) W l o o' hl h) (Below.refl _ _) (fun _ => rfl)
    (ModI w R N T) (fun _ _ _ => False) (modI_own w R N T _ (by omega) hO) (fun _ _ _ _ _ h _ _ => h) HI.out
    (fun x => { tmps := #[.pointer (some ⟨R, 0, none⟩), .pointer (some ⟨w.heap.size, 0, none⟩), .pointer (some ⟨w.heap.size + 1, 0, none⟩), undef, .int .u64 (x.1.2 : Int), .pointer (some ⟨R, 0, none⟩), .agg #[.int .u64 0, .int .u64 0, .int .u64 0, .int .u64 0], .pointer (some ⟨R, 0, none⟩), .pointer (some ⟨R, 8, none⟩), .pointer (some ⟨R, 0, none⟩), .pointer (some ⟨R, 0, none⟩), .pointer (some ⟨R, 0, none⟩), .slice (some ⟨R, 0, none⟩) 8 8, .func (.func 69) #[] #[.pointer (some ⟨w.heap.size + 2, 0, none⟩)], .int .i64 (x.1.1 : Int), .int .u64 (x.1.2 : Int), undef, undef, undef, undef, undef, undef, undef], defers := [] }) ?assign ?body ?done ?stop
  case assign =>
    intro l x W K hK
    unfold pwE
    gi_wp2
    exact hK
  case body =>
    rintro l pre x W hI _
    have hbox := hI.box.cell (i := 0) rfl
    have hgW := hI.grown
    have HJ := Lib.hid hI; clear hI
    gi_wp2_with (refine ⟨trivial, ?_⟩; gi_at_call 40; refine (CallsIn.inRound l (callsIn_wide.2 (bringDown_any R (fold pre) x.1.2 T (wds N 8) W rfl x.2 HJ.out.tab hR HJ.out.rest))).mono ?_; rintro e W' ⟨rfl, hg', hb'⟩)
    rw [← fold_snoc] at hb'
    refine ⟨KeepsFrom.of_grownBy hg' (fun j e => by cases e; omega), ⟨fun j hj => ?_, ?_⟩, ?_⟩
    · rw [hb'.cell (wds_get N 8 j hj _), HJ.out.rest.cell (wds_get N 8 j hj _)]
    · exact gb_cell hg' (p := ⟨w.heap.size + 2, 0, none⟩) (show w.heap.size + 2 < W.heap.size by have := HJ.out.size; omega) (some_ne' (by show w.heap.size + 2 ≠ R; omega))
    · exact ⟨hb', HJ.out.tab.kept hg' (fun r e => by cases e; exact hR), HJ.out.box.grown hg' (some_ne' (by omega)), HJ.out.res.grown hg' (some_ne' (by omega)), gb_trans HJ.out.grown hg', Nat.le_trans HJ.out.size hg'.size⟩
  case done =>
    rintro D ys W hD rfl hI hK
    have hf := fold_down N 8 HN.out (Nat.le_refl _)
    rw [show 64 * (8 - 8) = 0 from rfl, Nat.pow_zero, Nat.div_one] at hf
    have hrest := hI.rest
    rw [hf] at hrest
    have hres := hI.res
    have hbox := hI.box.cell (i := 0) rfl
    obtain ⟨q0, q1, q2, q3⟩ := recL_get (wds N 8) rfl (N % Sc.L)
    have k0 := hrest.cell q0
    have k1 := hrest.cell q1
    have k2 := hrest.cell q2
    have k3 := hrest.cell q3
    have r0 := hres.cell (i := 0) rfl
    have r1 := hres.cell (i := 1) rfl
    have r2 := hres.cell (i := 2) rfl
    have r3 := hres.cell (i := 3) rfl
    have f0 := hres.free 0
    have f1 := hres.free 1
    have f2 := hres.free 2
    have f3 := hres.free 3
    unfold wV u64N at k0 k1 k2 k3
    have HRe := Lib.hid hrest; clear hrest hres q0 q1 q2 q3 hf
    have HJ := Lib.hid hI; clear hI
    gi_wp2
    have hR4 := (((((HJ.out.res.set 0 (.int .u64 (Sc.wrd (N % Sc.L) 0 : Int))).set 1 (.int .u64 (Sc.wrd (N % Sc.L) 1 : Int))).set 2 (.int .u64 (Sc.wrd (N % Sc.L) 2 : Int))).set 3 (.int .u64 (Sc.wrd (N % Sc.L) 3 : Int))))
    have hB4 := (((HRe.out.other (a := ⟨w.heap.size + 1, 0, none⟩) (by show w.heap.size + 1 ≠ R; omega) (.int .u64 (Sc.wrd (N % Sc.L) 0 : Int))).other (a := ⟨w.heap.size + 1, 1, none⟩) (by show w.heap.size + 1 ≠ R; omega) (.int .u64 (Sc.wrd (N % Sc.L) 1 : Int))).other (a := ⟨w.heap.size + 1, 2, none⟩) (by show w.heap.size + 1 ≠ R; omega) (.int .u64 (Sc.wrd (N % Sc.L) 2 : Int))).other (a := ⟨w.heap.size + 1, 3, none⟩) (by show w.heap.size + 1 ≠ R; omega) (.int .u64 (Sc.wrd (N % Sc.L) 3 : Int))
    have hg4 := gb_set_new (gb_set_new (gb_set_new (gb_set_new HJ.out.grown (p := ⟨w.heap.size + 1, 0, none⟩) (Nat.le_succ _) (.int .u64 (Sc.wrd (N % Sc.L) 0 : Int))) (p := ⟨w.heap.size + 1, 1, none⟩) (Nat.le_succ _) (.int .u64 (Sc.wrd (N % Sc.L) 1 : Int))) (p := ⟨w.heap.size + 1, 2, none⟩) (Nat.le_succ _) (.int .u64 (Sc.wrd (N % Sc.L) 2 : Int))) (p := ⟨w.heap.size + 1, 3, none⟩) (Nat.le_succ _) (.int .u64 (Sc.wrd (N % Sc.L) 3 : Int))
    have hK4 := (((KeepsOthers.setCell W ⟨w.heap.size + 1, 0, none⟩ (.int .u64 (Sc.wrd (N % Sc.L) 0 : Int))).trans (KeepsOthers.setCell _ ⟨w.heap.size + 1, 1, none⟩ (.int .u64 (Sc.wrd (N % Sc.L) 1 : Int)))).trans (KeepsOthers.setCell _ ⟨w.heap.size + 1, 2, none⟩ (.int .u64 (Sc.wrd (N % Sc.L) 2 : Int)))).trans (KeepsOthers.setCell _ ⟨w.heap.size + 1, 3, none⟩ (.int .u64 (Sc.wrd (N % Sc.L) 3 : Int)))
    have hK5 := hK4.same D _ hK rfl
    clear hK4 r0 r1 r2 r3 f0 f1 f2 f3 k0 k1 k2 k3 hbox hK HRe HI
    have hs4 : w3.heap.size ≤ D := hD
    revert hR4 hB4 hg4 hK5
    generalize (((W.setCell ⟨w.heap.size + 1, 0, none⟩ (.int .u64 (Sc.wrd (N % Sc.L) 0 : Int))).setCell ⟨w.heap.size + 1, 1, none⟩ (.int .u64 (Sc.wrd (N % Sc.L) 1 : Int))).setCell ⟨w.heap.size + 1, 2, none⟩ (.int .u64 (Sc.wrd (N % Sc.L) 2 : Int))).setCell ⟨w.heap.size + 1, 3, none⟩ (.int .u64 (Sc.wrd (N % Sc.L) 3 : Int)) = W4
    intro hR4 hB4 hg4 hK5
    have hp := grownBy_putObj' W4 D (.deferred none)
    have hR5 := hR4.grown hp (some_ne' (by omega))
    have hB5 := hB4.grown hp (some_ne' (by omega))
    have hg5 := gb_then hg4 hp (by omega)
    have r0 := hR5.cell (i := 0) rfl
    have r1 := hR5.cell (i := 1) rfl
    have r2 := hR5.cell (i := 2) rfl
    have r3 := hR5.cell (i := 3) rfl
    refine ⟨by simp, .inl ⟨_, _, rfl, run_takeDeferred hK5, ?_⟩⟩
    refine ⟨narrowV (N % Sc.L), ?_, rfl, hg5, hB5⟩
    simp [results, Tryz.results25, go_sem, r0, r1, r2, r3, narrowV, wV, u64N]
  case stop =>
    rintro D c pre W _ _ h _
    exact h.elim
end Go.Proofs.YtmnlidfalhjghaaGreatDoor

/- scalar: the mathematics of products word by word. -/
namespace Go.Proofs.YtmnlidfalhjghaaGreatDoor
namespace Sc

theorem pow64 (j : Nat) : (2 : Nat) ^ (64 * (j + 1)) = 2 ^ (64 * j) * 18446744073709551616 := by rw [show 64 * (j + 1) = 64 * j + 64 by omega, Nat.pow_add]
theorem wrd_low (n i j : Nat) (h : i < j) : wrd (n % 2 ^ (64 * j)) i = wrd n i := by
  have e : (2 : Nat) ^ (64 * j) = 2 ^ (64 * i) * (18446744073709551616 * 2 ^ (64 * (j - i - 1))) := by
    rw [show (18446744073709551616 : Nat) = 2 ^ 64 by rfl, ← Nat.pow_add, ← Nat.pow_add]; congr 1; omega
  unfold wrd
  rw [e, Nat.mod_mul_right_div_self, Nat.mod_mul_right_mod]
theorem wrd_high (n i j : Nat) : wrd n (j + i) = wrd (n / 2 ^ (64 * j)) i := by
  unfold wrd
  rw [Nat.div_div_eq_div_mul, ← Nat.pow_add]
  congr 3; omega
/-- one word set -/
theorem setw (M j v : Nat) (hv : v < 18446744073709551616) : ∃ M', wrd M' j = v ∧ (∀ i, i ≠ j → wrd M' i = wrd M i) ∧ M' + wrd M j * 2 ^ (64 * j) = M + v * 2 ^ (64 * j) := by
  have hp : 0 < 2 ^ (64 * j) := Nat.pow_pos (by decide)
  have e1 := Nat.div_add_mod M (2 ^ (64 * j))
  have hl := Nat.mod_lt M hp
  refine ⟨(M / 2 ^ (64 * j) / 18446744073709551616 * 18446744073709551616 + v) * 2 ^ (64 * j) + M % 2 ^ (64 * j), ?_, ?_, ?_⟩
  · unfold wrd
    rw [Nat.mul_comm _ (2 ^ (64 * j)), Nat.mul_add_div hp, Nat.div_eq_of_lt hl]
    omega
  · intro i hi
    rcases Nat.lt_or_ge i j with h | h
    · rw [← wrd_low _ i j h, ← wrd_low M i j h, Nat.mul_comm _ (2 ^ (64 * j)), Nat.mul_add_mod, Nat.mod_mod]
    · obtain ⟨d, rfl⟩ : ∃ d, i = (j + 1) + d := ⟨i - (j + 1), by omega⟩
      rw [wrd_high, wrd_high M, pow64, ← Nat.div_div_eq_div_mul, ← Nat.div_div_eq_div_mul, Nat.mul_comm _ (2 ^ (64 * j)), Nat.mul_add_div hp, Nat.div_eq_of_lt hl]
      congr 1; omega
  · have e2 : wrd M j = M / 2 ^ (64 * j) % 18446744073709551616 := rfl
    have e3 := Nat.div_add_mod (M / 2 ^ (64 * j)) 18446744073709551616
    rw [e2]
    generalize M / 2 ^ (64 * j) = q at *
    generalize M % 2 ^ (64 * j) = r at *
    generalize 2 ^ (64 * j) = p at *
    have e4 : (q / 18446744073709551616 * 18446744073709551616 + v) * p + q % 18446744073709551616 * p = (q + v) * p := by rw [← Nat.add_mul]; congr 1; omega
    rw [Nat.add_mul q] at e4
    rw [Nat.mul_comm] at e1
    omega
theorem mod_next (n k : Nat) : n % 2 ^ (64 * (k + 1)) = n % 2 ^ (64 * k) + wrd n k * 2 ^ (64 * k) := by
  rw [pow64, Nat.mod_mul, Nat.mul_comm (2 ^ (64 * k))]; rfl
/-- one step of the inner loop -/
theorem mul_in (M N x b i k o : Nat) (h : M + o * 2 ^ (64 * (i + k)) = N + x * (b % 2 ^ (64 * k)) * 2 ^ (64 * i)) :
    ∃ M', wrd M' (i + k) = (x * wrd b k + wrd M (i + k) + o) % 18446744073709551616 ∧ (∀ j, j ≠ i + k → wrd M' j = wrd M j) ∧
      M' + (x * wrd b k + wrd M (i + k) + o) / 18446744073709551616 * 2 ^ (64 * (i + k + 1)) = N + x * (b % 2 ^ (64 * (k + 1))) * 2 ^ (64 * i) := by
  obtain ⟨M', h1, h2, h3⟩ := setw M (i + k) ((x * wrd b k + wrd M (i + k) + o) % 18446744073709551616) (Nat.mod_lt _ (by decide))
  refine ⟨M', h1, h2, ?_⟩
  rw [pow64, mod_next, Nat.mul_add x, Nat.add_mul]
  have e1 : x * (wrd b k * 2 ^ (64 * k)) * 2 ^ (64 * i) = x * wrd b k * 2 ^ (64 * (i + k)) := by
    rw [show 64 * (i + k) = 64 * k + 64 * i by omega, Nat.pow_add]; simp [Nat.mul_assoc]
  rw [e1, ← Nat.add_assoc, ← h]
  generalize x * wrd b k = y at *
  generalize 2 ^ (64 * (i + k)) = p at *
  generalize wrd M (i + k) = m at *
  have e2 := Nat.div_add_mod (y + m + o) 18446744073709551616
  have e3 : (18446744073709551616 * ((y + m + o) / 18446744073709551616) + (y + m + o) % 18446744073709551616) * p = (y + m + o) * p := by rw [e2]
  rw [Nat.add_mul, Nat.add_mul, Nat.add_mul] at e3
  have e4 : (y + m + o) / 18446744073709551616 * (p * 18446744073709551616) = 18446744073709551616 * ((y + m + o) / 18446744073709551616) * p := by
    rw [Nat.mul_comm p, ← Nat.mul_assoc, Nat.mul_comm 18446744073709551616]
  rw [e4]
  omega
/-- what is there behind i rounds -/
def part (a b c i : Nat) : Nat := c + a % 2 ^ (64 * i) * b
theorem part_lt (a b c i : Nat) (hb : b < 2 ^ 256) (hc : c < 2 ^ 256) : part a b c i < 2 ^ (64 * (i + 4)) := by
  have e : (2 : Nat) ^ (64 * (i + 4)) = 2 ^ (64 * i) * 2 ^ 256 := by rw [← Nat.pow_add]; congr 1
  have hp : 0 < 2 ^ (64 * i) := Nat.pow_pos (by decide)
  have h1 := Nat.mod_lt a hp
  unfold part
  rw [e]
  have h2 := Nat.mul_le_mul (show a % 2 ^ (64 * i) ≤ 2 ^ (64 * i) - 1 by omega) (show b ≤ 2 ^ 256 - 1 by omega)
  have h3 : (2 ^ (64 * i) - 1) * (2 ^ 256 - 1) + (2 ^ 256 - 1) = 2 ^ (64 * i) * (2 ^ 256 - 1) := by
    obtain ⟨p, hp2⟩ : ∃ p, 2 ^ (64 * i) = p + 1 := ⟨2 ^ (64 * i) - 1, by omega⟩
    rw [hp2, Nat.add_sub_cancel, Nat.add_mul, Nat.one_mul]
  have h4 : 2 ^ (64 * i) * (2 ^ 256 - 1) < 2 ^ (64 * i) * 2 ^ 256 := Nat.mul_lt_mul_of_pos_left (by decide) hp
  omega
theorem part_top (a b c i j : Nat) (hb : b < 2 ^ 256) (hc : c < 2 ^ 256) (hj : i + 4 ≤ j) : wrd (part a b c i) j = 0 := by
  have h := part_lt a b c i hb hc
  have h2 : (2 : Nat) ^ (64 * (i + 4)) ≤ 2 ^ (64 * j) := Nat.pow_le_pow_right (by decide) (by omega)
  unfold wrd
  rw [Nat.div_eq_of_lt (by omega)]
theorem part_next (a b c i : Nat) : part a b c (i + 1) = part a b c i + wrd a i * b * 2 ^ (64 * i) := by
  unfold part
  rw [mod_next, Nat.add_mul, Nat.mul_assoc (wrd a i), Nat.mul_assoc (wrd a i), Nat.mul_comm b, Nat.add_assoc]
theorem part_end (a b c : Nat) (ha : a < 2 ^ 256) : part a b c 4 = a * b + c := by
  unfold part
  rw [Nat.mod_eq_of_lt ha, Nat.add_comm]
/-- the last word of a round -/
theorem mul_out (M N x b i o : Nat) (hb : b < 2 ^ 256) (h : M + o * 2 ^ (64 * (i + 4)) = N + x * (b % 2 ^ (64 * 4)) * 2 ^ (64 * i)) (hz : wrd M (i + 4) = 0) (ho : o < 18446744073709551616) :
    ∃ M', wrd M' (i + 4) = o ∧ (∀ j, j ≠ i + 4 → wrd M' j = wrd M j) ∧ M' = N + x * b * 2 ^ (64 * i) := by
  obtain ⟨M', h1, h2, h3⟩ := setw M (i + 4) o ho
  refine ⟨M', h1, h2, ?_⟩
  rw [hz, Nat.zero_mul, Nat.add_zero, h, Nat.mod_eq_of_lt hb] at h3
  exact h3
theorem over_lt (x y m o : Nat) (hx : x < 18446744073709551616) (hy : y < 18446744073709551616) (hm : m < 18446744073709551616) (ho : o < 18446744073709551616) : (x * y + m + o) / 18446744073709551616 < 18446744073709551616 := by
  have h := Nat.mul_le_mul (show x ≤ 18446744073709551615 by omega) (show y ≤ 18446744073709551615 by omega)
  omega
end Sc
end Go.Proofs.YtmnlidfalhjghaaGreatDoor

/- scalar: mulAdd: the words of a product and a sum. -/
namespace Go.Proofs.YtmnlidfalhjghaaGreatDoor
open Go.RowKit Ow

theorem size_u64 : (Tryz.prog.info? 40).map (·.size) = some 1 := by kernel_rfl
theorem copy_words (R C c : Nat) (T S : TypeId) (tl : List Value) (w : World) (hR : Blk w R T (wds 0 8 ++ tl)) (hC : Blk w C S [wV c 0, wV c 1, wV c 2, wV c 3]) (hc : c < 2 ^ 256) :
    ∃ w', (Builtin.copy_ #[87, 87] 3 #[.slice (some ⟨R, 0, none⟩) 8 8, .slice (some ⟨C, 0, none⟩) 4 4]).run Tryz.prog w = .ok (.int .i64 4) w' ∧ w.grownBy w' (some R) ∧ Blk w' R T (wds c 8 ++ tl) := by
  have h := run_copy_row (P := Tryz.prog) w 87 87 3 40 R 0 8 8 ⟨C, 0, none⟩ 4 4 (wds 0 8 ++ tl).toArray T [wV c 0, wV c 1, wV c 2, wV c 3] Tryz.underlying87 size_u64 hR rfl
    (fun j v hv => by
      have hj : j < 4 := by
        rcases Nat.lt_or_ge j 4 with h | h
        · exact h
        · rw [List.getElem?_eq_none (by simpa using h)] at hv; cases hv
      have hadd : (⟨C, 0, none⟩ : Addr).add j = ⟨C, j, none⟩ := by unfold Addr.add; split <;> simp_all
      rw [hadd]; exact hC.cell hv) (by simp [wds]; omega) (by intro v hv; simp at hv; rcases hv with rfl | rfl | rfl | rfl <;> rfl)
  refine ⟨_, h, gb_setRow' (gb_refl _ _) _, ?_⟩
  have e : ((wds 0 8 ++ tl).toArray.toList.take 0 ++ ([wV c 0, wV c 1, wV c 2, wV c 3] ++ (wds 0 8 ++ tl).toArray.toList.drop (0 + 4))) = wds c 8 ++ tl := by
    have z : ∀ j, 4 ≤ j → wV c j = wV 0 j := fun j hj => by
      have hp : (2 : Nat) ^ 256 ≤ 2 ^ (64 * j) := Nat.pow_le_pow_right (by decide) (by omega)
      unfold wV Sc.wrd
      rw [Nat.div_eq_of_lt (by omega), Nat.zero_div]
    rw [wds8, wds8, z 4 (by decide), z 5 (by decide), z 6 (by decide), z 7 (by decide)]
    rfl
  rw [← e]
  exact hR.row _
theorem narrow_index (n j : Nat) (hj : j < 4) : ∀ w, (Instr.index 44 (.agg #[.int .u64 (Sc.wrd n 0 : Int), .int .u64 (Sc.wrd n 1 : Int), .int .u64 (Sc.wrd n 2 : Int), .int .u64 (Sc.wrd n 3 : Int)]) (.int .i64 j)).run Tryz.prog w = .ok (.int .u64 (Sc.wrd n j : Int)) w := by
  intro w
  obtain rfl | rfl | rfl | rfl : j = 0 ∨ j = 1 ∨ j = 2 ∨ j = 3 := by omega
  all_goals kernel_rfl
set_option maxRecDepth 100000 in
set_option maxHeartbeats 1600000 in
theorem mulAdd_any (R a b c : Nat) (T : TypeId) (Y tl : List Value) (w : World) (hY : Y.length = 8) (ha : a < 2 ^ 256) (hbb : b < 2 ^ 256) (hc : c < 2 ^ 256) (hb : Blk w R T (Y ++ tl)) :
    Calls Tryz.prog 35 #[.pointer (some ⟨R, 0, none⟩), narrowV a, narrowV b, narrowV c] w fun e w' => e = .returned (.tuple #[]) ∧ w.grownBy w' (some R) ∧ Blk w' R T (wds (a * b + c) 8 ++ tl) := by
  have HB := Lib.hid hb; clear hb
  match Y, hY with
  | [y0, y1, y2, y3, y4, y5, y6, y7], _ =>
    have hR := HB.out.lt
    have hb3 := ((HB.out.alloc (.cells #[wV a 0, wV a 1, wV a 2, wV a 3] 44)).alloc (.cells #[wV b 0, wV b 1, wV b 2, wV b 3] 44)).alloc (.cells #[wV c 0, wV c 1, wV c 2, wV c 3] 44)
    unfold wV u64N at hb3
    have c0 := hb3.cell (i := 0) rfl
    have c1 := hb3.cell (i := 1) rfl
    have c2 := hb3.cell (i := 2) rfl
    have c3 := hb3.cell (i := 3) rfl
    have c4 := hb3.cell (i := 4) rfl
    have c5 := hb3.cell (i := 5) rfl
    have c6 := hb3.cell (i := 6) rfl
    have c7 := hb3.cell (i := 7) rfl
    have f0 := hb3.free 0
    have f1 := hb3.free 1
    have f2 := hb3.free 2
    have f3 := hb3.free 3
    have f4 := hb3.free 4
    have f5 := hb3.free 5
    have f6 := hb3.free 6
    have f7 := hb3.free 7
    have HB3 := Lib.hid hb3; clear hb3
    unfold narrowV wV u64N
    go_enter Tryz.func35, Tryz.ntmps35
    go_wp2
    have hA := (((Blk.new w [wV a 0, wV a 1, wV a 2, wV a 3] 44).alloc (.cells #[wV b 0, wV b 1, wV b 2, wV b 3] 44)).alloc (.cells #[wV c 0, wV c 1, wV c 2, wV c 3] 44))
    have hBB := ((blk_at (w.alloc (.cells #[wV a 0, wV a 1, wV a 2, wV a 3] 44)) (B := w.heap.size + 1) [wV b 0, wV b 1, wV b 2, wV b 3] 44 (by simp)).alloc (.cells #[wV c 0, wV c 1, wV c 2, wV c 3] 44))
    have hC := (blk_at ((w.alloc (.cells #[wV a 0, wV a 1, wV a 2, wV a 3] 44)).alloc (.cells #[wV b 0, wV b 1, wV b 2, wV b 3] 44)) (B := w.heap.size + 1 + 1) [wV c 0, wV c 1, wV c 2, wV c 3] 44 (by simp))
    have hg3 := gb_alloc (gb_alloc (gb_alloc (gb_refl w (some R)) (.cells #[wV a 0, wV a 1, wV a 2, wV a 3] 44)) (.cells #[wV b 0, wV b 1, wV b 2, wV b 3] 44)) (.cells #[wV c 0, wV c 1, wV c 2, wV c 3] 44)
    unfold wV u64N at hA hBB hC hg3
    have HB3' := HB3.out
    clear c0 c1 c2 c3 c4 c5 c6 c7 f0 f1 f2 f3 f4 f5 f6 f7 HB3 HB
    revert hA hBB hC hg3 HB3'
    have hs0 : w.heap.size + 3 ≤ (((w.alloc (.cells #[.int .u64 (Sc.wrd a 0 : Int), .int .u64 (Sc.wrd a 1 : Int), .int .u64 (Sc.wrd a 2 : Int), .int .u64 (Sc.wrd a 3 : Int)] 44)).alloc (.cells #[.int .u64 (Sc.wrd b 0 : Int), .int .u64 (Sc.wrd b 1 : Int), .int .u64 (Sc.wrd b 2 : Int), .int .u64 (Sc.wrd b 3 : Int)] 44)).alloc (.cells #[.int .u64 (Sc.wrd c 0 : Int), .int .u64 (Sc.wrd c 1 : Int), .int .u64 (Sc.wrd c 2 : Int), .int .u64 (Sc.wrd c 3 : Int)] 44)).heap.size := by simp
    revert hs0
    generalize ((w.alloc (.cells #[.int .u64 (Sc.wrd a 0 : Int), .int .u64 (Sc.wrd a 1 : Int), .int .u64 (Sc.wrd a 2 : Int), .int .u64 (Sc.wrd a 3 : Int)] 44)).alloc (.cells #[.int .u64 (Sc.wrd b 0 : Int), .int .u64 (Sc.wrd b 1 : Int), .int .u64 (Sc.wrd b 2 : Int), .int .u64 (Sc.wrd b 3 : Int)] 44)).alloc (.cells #[.int .u64 (Sc.wrd c 0 : Int), .int .u64 (Sc.wrd c 1 : Int), .int .u64 (Sc.wrd c 2 : Int), .int .u64 (Sc.wrd c 3 : Int)] 44) = W3
    intro hs0 hA hBB hC hg3 hR3
    have hR4 := (((((((hR3.set 0 (wV 0 0)).set 1 (wV 0 1)).set 2 (wV 0 2)).set 3 (wV 0 3)).set 4 (wV 0 4)).set 5 (wV 0 5)).set 6 (wV 0 6)).set 7 (wV 0 7)
    have hG4 := gb_set (gb_set (gb_set (gb_set (gb_set (gb_set (gb_set (gb_set hg3 0 (wV 0 0)) 1 (wV 0 1)) 2 (wV 0 2)) 3 (wV 0 3)) 4 (wV 0 4)) 5 (wV 0 5)) 6 (wV 0 6)) 7 (wV 0 7)
    have hgA := gb_set (gb_set (gb_set (gb_set (gb_set (gb_set (gb_set (gb_set (gb_refl W3 (some R)) 0 (wV 0 0)) 1 (wV 0 1)) 2 (wV 0 2)) 3 (wV 0 3)) 4 (wV 0 4)) 5 (wV 0 5)) 6 (wV 0 6)) 7 (wV 0 7)
    have hR5 : Blk _ R T (wds 0 8 ++ tl) := hR4
    have hA4 := hA.grown hgA (some_ne' (by omega))
    have hB4 := hBB.grown hgA (some_ne' (by omega))
    have hC4 := hC.grown hgA (some_ne' (by omega))
    simp only [wV0] at hR5 hG4 hA4 hB4 hC4
    clear hR4 hgA hA hBB hC hg3 hR3 hs0
    revert hR5 hG4 hA4 hB4 hC4
    generalize (((((((W3.setCell ⟨R, 0, none⟩ (.int .u64 0)).setCell ⟨R, 1, none⟩ (.int .u64 0)).setCell ⟨R, 2, none⟩ (.int .u64 0)).setCell ⟨R, 3, none⟩ (.int .u64 0)).setCell ⟨R, 4, none⟩ (.int .u64 0)).setCell ⟨R, 5, none⟩ (.int .u64 0)).setCell ⟨R, 6, none⟩ (.int .u64 0)).setCell ⟨R, 7, none⟩ (.int .u64 0) = W4
    intro hR5 hG4 hA4 hB4 hC4
    obtain ⟨w5, hcp, hg5, hb5⟩ := copy_words R (w.heap.size + 1 + 1) c T _ tl W4.drew hR5.drew hC4.drew hc
    have hGG := Lib.hid (gb_trans (gb_drew hG4) hg5)
    have HA := Lib.hid (hA4.drew.grown hg5 (some_ne' (by omega)))
    have HBB := Lib.hid (hB4.drew.grown hg5 (some_ne' (by omega)))
    have HR := Lib.hid hb5
    clear hb5 hg5 hR5 hG4 hA4 hB4 hC4
    have hcA := HA.out
    have a0 := hcA.cell (i := 0) rfl
    have a1 := hcA.cell (i := 1) rfl
    have a2 := hcA.cell (i := 2) rfl
    have a3 := hcA.cell (i := 3) rfl
    clear hcA
    go_region
    all_goals go_wp2
    have hz : Sc.part a b c 0 = c := by unfold Sc.part; rw [Nat.mul_zero, Nat.pow_zero, Nat.mod_one, Nat.zero_mul, Nat.add_zero]
    have HR0 : Hid (Blk w5 R T (wds (Sc.part a b c 0) 8 ++ tl)) := by rw [hz]; exact HR
    clear hz a0 a1 a2 a3
    go_loopw [22] (fun t wr => ∃ i : Nat, i ≤ 4 ∧ t = .int .i64 i ∧ w.grownBy wr (some R) ∧ Blk wr R T (wds (Sc.part a b c i) 8 ++ tl) ∧ Blk wr (w.heap.size + 1) 44 [.int .u64 (Sc.wrd b 0 : Int), .int .u64 (Sc.wrd b 1 : Int), .int .u64 (Sc.wrd b 2 : Int), .int .u64 (Sc.wrd b 3 : Int)]) (fun t _ => 4 - (intOf t).toNat)
    case atStart => exact ⟨0, by omega, rfl, hGG.out, HR0.out, HBB.out⟩
    case round =>
      clear hGG HR0 HBB HR HA hcp
      obtain ⟨i, hi, rfl, hg, hbR, hbB⟩ := hrel
      by_cases hlt : i < 4
      · have hix := narrow_index a i hlt
        have b0 := hbB.cell (i := 0) rfl
        have b1 := hbB.cell (i := 1) rfl
        have b2 := hbB.cell (i := 2) rfl
        have b3 := hbB.cell (i := 3) rfl
        have HG := Lib.hid hg; clear hg
        have HR := Lib.hid hbR; clear hbR
        have HBB := Lib.hid hbB; clear hbB
        obtain ⟨x, hx⟩ : ∃ x, x = Sc.wrd a i := ⟨_, rfl⟩
        have hxl : x < 18446744073709551616 := by rw [hx]; exact Sc.wrd_lt a i
        rw [← hx] at hix
        have HX := Lib.hid hx; clear hx
        have i0 : (i : Int) < 4 := by omega
        go_wp2
        clear b0 b1 b2 b3
        go_loopw [10, 27] (fun ot kt wr => ∃ k o M : Nat, k ≤ 4 ∧ o < 18446744073709551616 ∧ ot = .int .u64 o ∧ kt = .int .i64 k ∧ M + o * 2 ^ (64 * (i + k)) = Sc.part a b c i + x * (b % 2 ^ (64 * k)) * 2 ^ (64 * i) ∧ (∀ j, i + 4 ≤ j → Sc.wrd M j = Sc.wrd (Sc.part a b c i) j) ∧ w.grownBy wr (some R) ∧ Blk wr R T (wds M 8 ++ tl) ∧ Blk wr (w.heap.size + 1) 44 [.int .u64 (Sc.wrd b 0 : Int), .int .u64 (Sc.wrd b 1 : Int), .int .u64 (Sc.wrd b 2 : Int), .int .u64 (Sc.wrd b 3 : Int)]) (fun _ kt _ => 4 - (intOf kt).toNat)
        case atStart => exact ⟨0, 0, Sc.part a b c i, by omega, by decide, rfl, rfl, by simp [Nat.mod_one], fun _ _ => rfl, HG.out, HR.out, HBB.out⟩
        case round =>
          clear HG HR HBB hix
          obtain ⟨k, o, M, hk, hol, rfl, rfl, hM, hT, hg, hbR, hbB⟩ := hrel
          by_cases hkl : k < 4
          · have hix := narrow_index b k hkl
            obtain ⟨j, hj⟩ : ∃ j, j = i + k := ⟨_, rfl⟩
            have hji : (i : Int) + (k : Int) = (j : Int) := by omega
            have j7 : j < 8 := by omega
            obtain ⟨M', m1, m2, m3⟩ := Sc.mul_in M _ x b i k o hM
            rw [← hj] at m1 m2 m3
            have hol2 := Sc.over_lt x (Sc.wrd b k) (Sc.wrd M j) o hxl (Sc.wrd_lt _ _) (Sc.wrd_lt _ _) hol
            have hset := wds_set M M' 8 j j7 tl _ m1 m2
            have r0 := hbR.cell (wds_get M 8 j j7 tl)
            have f0 := hbR.free j
            have hmw := fun W => maw_any x (Sc.wrd b k) (Sc.wrd M j) o W hxl (Sc.wrd_lt _ _) (Sc.wrd_lt _ _) hol
            have hT2 : ∀ j', i + 4 ≤ j' → Sc.wrd M' j' = Sc.wrd (Sc.part a b c i) j' := fun j' hj' => by rw [m2 j' (by omega)]; exact hT j' hj'
            have m4 : M' + (x * Sc.wrd b k + Sc.wrd M j + o) / 18446744073709551616 * 2 ^ (64 * (i + (k + 1))) = Sc.part a b c i + x * (b % 2 ^ (64 * (k + 1))) * 2 ^ (64 * i) := by
              have e : i + (k + 1) = j + 1 := by omega
              rw [e]; exact m3
            have HS := Lib.hid (And.intro hset (And.intro m4 (And.intro hT2 hol2))); clear hset m1 m2 m3 m4 hT hT2 hM hol2
            have HMW := Lib.hid hmw; clear hmw
            have HG := Lib.hid hg; clear hg
            have HR := Lib.hid hbR; clear hbR
            have HBB := Lib.hid hbB; clear hbB
            have HJ := Lib.hid hj; clear hj
            unfold wV u64N at r0
            generalize (x * Sc.wrd b k + Sc.wrd M j + o) / 18446744073709551616 = o' at *
            generalize (x * Sc.wrd b k + Sc.wrd M j + o) % 18446744073709551616 = v' at *
            have k0 : (k : Int) < 4 := by omega
            go_wp2
            have hwr : IntKind.i64.wrap ((i : Int) + (k : Int)) = (j : Int) := by rw [hji]; exact IntWalk.i64_in _ (by omega)
            clear hji
            go_region_with (go_at_call 68; refine (HMW.out _).mono ?_; rintro e w' ⟨rfl, rfl⟩)
            clear hwr
            all_goals go_wp2
            go_roundw
            case rel =>
              refine ⟨k + 1, o', M', by omega, HS.out.2.2.2, rfl, by go_num, HS.out.2.1, HS.out.2.2.1, gb_drew (gb_set HG.out _ _), ?_, (HBB.out.other (by show ¬ R = w.heap.size + 1; omega) _).drew⟩
              have h := HR.out.set j (u64N v')
              rw [HS.out.1] at h
              exact h.drew
            case measure => simp [intOf]; omega
          · obtain rfl : k = 4 := by omega
            have hz4 : Sc.wrd M (i + 4) = 0 := by rw [hT (i + 4) (by omega)]; exact Sc.part_top a b c i (i + 4) hbb hc (by omega)
            obtain ⟨M', m1, m2, m3⟩ := Sc.mul_out M _ x b i o hbb hM hz4 hol
            have m4 : M' = Sc.part a b c (i + 1) := by rw [m3, Sc.part_next, HX.out]
            subst m4
            obtain ⟨j, hj⟩ : ∃ j, j = i + 4 := ⟨_, rfl⟩
            have hji : (i : Int) + 4 = (j : Int) := by omega
            have j7 : j < 8 := by omega
            rw [← hj] at m1 m2
            have hset := wds_set M (Sc.part a b c (i + 1)) 8 j j7 tl _ m1 m2
            have r0 := hbR.cell (wds_get M 8 j j7 tl)
            have f0 := hbR.free j
            have HS := Lib.hid hset; clear hset m1 m2 m3 hT hM hz4
            have HG := Lib.hid hg; clear hg
            have HR := Lib.hid hbR; clear hbR
            have HBB := Lib.hid hbB; clear hbB
            have HJ := Lib.hid hj; clear hj
            unfold wV u64N at r0
            go_wp2
            go_roundw
            case rel =>
              refine ⟨i + 1, by omega, by go_num, gb_set HG.out _ _, ?_, HBB.out.other (by show ¬ R = w.heap.size + 1; omega) _⟩
              have h := HR.out.set j (u64N o)
              rw [HS.out] at h
              exact h
            case measure => simp [intOf]; omega
      · obtain rfl : i = 4 := by omega
        rw [Sc.part_end a b c ha] at hbR
        have HG := Lib.hid hg; clear hg
        have HR := Lib.hid hbR; clear hbR hbB
        go_wp2
        go_end0
        exact ⟨rfl, HG.out, HR.out⟩
end Go.Proofs.YtmnlidfalhjghaaGreatDoor

/- scalar: bytes that are told, as slices; numbers of bytes. -/
namespace Go.Proofs.YtmnlidfalhjghaaGreatDoor
open Go.RowKit Ow
theorem own_blk {w : World} {base e n g : Nat} {xs : List Value} (h : w.ownsRow base e 1 (.slice (some ⟨g, 0, none⟩) n n) n xs) : Blk w g e xs ∧ base ≤ g := by
  rcases h.2 with ⟨h0, _⟩ | ⟨g', cap, cur, e1, hb, hg, _, _, hs, ht⟩
  · cases h0
  · cases e1
    refine ⟨?_, hb⟩
    have : cur.toList = xs := by rw [← ht, List.take_of_length_le]; rw [Array.length_toList]; omega
    unfold Blk
    rw [hg, ← this, Array.toArray_toList]
/-- bytes that lie in a new block, as a slice -/
def OutB (l : List Nat) (w : World) (e : Ending) (w' : World) : Prop := ∃ g, e = .returned (.slice (some ⟨g, 0, none⟩) l.length l.length) ∧ w.grownBy w' none ∧ w.heap.size ≤ g ∧ Blk w' g 5 (l.map u8N)
/-- the scalar of a number -/
def scB (n : Nat) : List Nat := bytesN (n % Sc.L) 32
theorem scB_length (n : Nat) : (scB n).length = 32 := bytesN_length _ _
theorem scB_lt (n i : Nat) : (scB n).getD i 0 < 256 := bytesN_lt _ _ _
theorem scB_num (n : Nat) : num (scB n) = n % Sc.L := by
  unfold scB
  rw [num_bytesN]
  exact Nat.mod_eq_of_lt (Sc.lt256 _ (Sc.mod_lt n))
theorem num_lt (l : List Nat) (hl : ∀ i, l.getD i 0 < 256) : num l < 2 ^ (8 * l.length) := Sc.leN_lt _ hl _
theorem div_top (n j k : Nat) (h : n < 2 ^ j) (hk : j ≤ k) : n / 2 ^ k = 0 := Nat.div_eq_of_lt (Nat.lt_of_lt_of_le h (Nat.pow_le_pow_right (by decide) hk))
theorem num_top (l : List Nat) (hl : ∀ i, l.getD i 0 < 256) (h : l.length ≤ 64) : num l / 2 ^ (64 * 8) = 0 := by
  have h2 := div_top (num l) (8 * l.length) (64 * 8) (num_lt l hl) (by omega)
  exact h2
theorem num_256 (l : List Nat) (hl : ∀ i, l.getD i 0 < 256) (h : l.length ≤ 32) : num l < 2 ^ 256 :=
  Nat.lt_of_lt_of_le (num_lt l hl) (Nat.pow_le_pow_right (by decide) (by omega))
def zeros12 : List Value := [.int .u64 0, .int .u64 0, .int .u64 0, .int .u64 0, .int .u64 0, .int .u64 0, .int .u64 0, .int .u64 0, .int .u64 0, .int .u64 0, .int .u64 0, .int .u64 0]
theorem out_of {n : Nat} {w w1 w2 : World} {g : Nat} (hg : w.grownBy w1 none) (hg2 : w1.grownBy w2 none) (ho : w2.ownsRow w1.heap.size 5 1 (.slice (some ⟨g, 0, none⟩) 32 32) 32 ((bytesN n 32).map u8N)) :
    ∀ m, n = m % Sc.L → OutB (scB m) w (.returned (.slice (some ⟨g, 0, none⟩) 32 32)) w2 := by
  rintro m rfl
  obtain ⟨hb, hge⟩ := own_blk ho
  exact ⟨g, by rw [scB_length], gb_trans hg hg2, Nat.le_trans hg.size hge, hb⟩
end Go.Proofs.YtmnlidfalhjghaaGreatDoor

/- scalar: bytes into a wide one. -/
namespace Go.Proofs.YtmnlidfalhjghaaGreatDoor
open Go.RowKit Ow
set_option maxHeartbeats 1600000 in
theorem load_any (R len cap B : Nat) (T : TypeId) (Y tl : List Value) (a : Option Addr) (l : List Nat) (w : World) (hl : l.length = len) (hm : len ≤ 64) (hY : Y.length = 8) (hP : BytesAt w B a cap l) (hB : B ≤ R) (hb : Blk w R T (Y ++ tl)) :
    Calls Tryz.prog 24 #[.pointer (some ⟨R, 0, none⟩), .slice a len cap] w fun e w' => e = .returned (.tuple #[]) ∧ w.grownBy w' (some R) ∧ Blk w' R T (wds (num l) 8 ++ tl) := by
  have HP := Lib.hid hP; clear hP
  have hlen := Lib.hid hl; clear hl
  have HB := Lib.hid hb; clear hb
  match Y, hY with
  | [y0, y1, y2, y3, y4, y5, y6, y7], _ =>
    have c0 := HB.out.cell (i := 0) rfl
    have c1 := HB.out.cell (i := 1) rfl
    have c2 := HB.out.cell (i := 2) rfl
    have c3 := HB.out.cell (i := 3) rfl
    have c4 := HB.out.cell (i := 4) rfl
    have c5 := HB.out.cell (i := 5) rfl
    have c6 := HB.out.cell (i := 6) rfl
    have c7 := HB.out.cell (i := 7) rfl
    have f0 := HB.out.free 0
    have f1 := HB.out.free 1
    have f2 := HB.out.free 2
    have f3 := HB.out.free 3
    have f4 := HB.out.free 4
    have f5 := HB.out.free 5
    have f6 := HB.out.free 6
    have f7 := HB.out.free 7
    go_enter Tryz.func24, Tryz.ntmps24
    go_wp2_with fail
    have hb1 := (((((((HB.out.set 0 (wV 0 0)).set 1 (wV 0 1)).set 2 (wV 0 2)).set 3 (wV 0 3)).set 4 (wV 0 4)).set 5 (wV 0 5)).set 6 (wV 0 6)).set 7 (wV 0 7)
    have hg1 := gb_set (gb_set (gb_set (gb_set (gb_set (gb_set (gb_set (gb_set (gb_refl w (some R)) 0 (wV 0 0)) 1 (wV 0 1)) 2 (wV 0 2)) 3 (wV 0 3)) 4 (wV 0 4)) 5 (wV 0 5)) 6 (wV 0 6)) 7 (wV 0 7)
    have hb2 : Blk _ R T (wds 0 8 ++ tl) := hb1
    simp only [wV0] at hb2 hg1
    clear hb1 HB c0 c1 c2 c3 c4 c5 c6 c7 f0 f1 f2 f3 f4 f5 f6 f7
    have HB := Lib.hid hb2; clear hb2
    refine (fill_any R 8 len cap B T tl a l _ hlen.out hm (by omega) (HP.out.kept hg1 (fun r e => by cases e; exact hB)) hB HB.out).mono ?_
    rintro e w2 ⟨rfl, hg2, hb2⟩
    have HG := Lib.hid (gb_trans hg1 hg2); clear hg1 hg2
    have HB2 := Lib.hid hb2; clear hb2
    go_wp2
    go_end0
    exact ⟨rfl, HG.out, HB2.out⟩
end Go.Proofs.YtmnlidfalhjghaaGreatDoor

/- scalar: Reduce. -/
namespace Go.Proofs.YtmnlidfalhjghaaGreatDoor
open Go.RowKit Ow
set_option maxRecDepth 100000 in
set_option maxHeartbeats 1600000 in
theorem reduce_any (len cap B : Nat) (a : Option Addr) (l : List Nat) (w : World) (hl : l.length = len) (hm : len ≤ 64) (hP : BytesAt w B a cap l) (hT : OTab w) :
    Calls Tryz.prog 8 #[.slice a len cap] w (OutB (scB (num l)) w) := by
  have hN := num_top l hP.byte (by omega)
  have hB := hP.lim
  have HP := Lib.hid hP; clear hP
  have HT := Lib.hid hT; clear hT
  have HL := Lib.hid hl; clear hl
  have hb := Blk.new w zeros12 46
  have hg := gb_alloc (gb_refl w none) (.cells zeros12.toArray 46)
  have hO : 0 < w.heap.size := HT.out.lt
  have hb0 : Blk (w.alloc (.cells zeros12.toArray 46)) w.heap.size 46 ([.int .u64 0, .int .u64 0, .int .u64 0, .int .u64 0, .int .u64 0, .int .u64 0, .int .u64 0, .int .u64 0] ++ [.int .u64 0, .int .u64 0, .int .u64 0, .int .u64 0]) := hb
  have HB := Lib.hid hb0; clear hb hb0
  have HG := Lib.hid hg; clear hg
  have h64 : ¬ 64 < len := by omega
  go_enter Tryz.func8, Tryz.ntmps8
  go_wp2_with fail
  refine (load_any w.heap.size len cap B _ _ _ a l _ HL.out hm rfl (HP.out.stay HG.out) hB HB.out).mono ?_
  rintro e w1 ⟨rfl, hg1, hb1⟩
  have HG1 := Lib.hid (gb_then HG.out hg1 (Nat.le_refl _)); clear hg1
  have HB1 := Lib.hid hb1; clear hb1
  go_wp2_with fail
  refine (modulo_any w.heap.size (num l) _ _ _ _ _ w1 hN (HT.out.kept HG1.out (fun r e => by cases e)) hO HB1.out).mono ?_
  rintro e w2 ⟨rfl, hg2, _⟩
  have HG2 := Lib.hid (gb_then HG1.out hg2 (Nat.le_refl _)); clear hg2
  go_wp2_with fail
  refine (nbytes_any (num l % Sc.L) w2).mono ?_
  rintro e w3 ⟨g, rfl, hg3, ho3⟩
  have HO := Lib.hid (And.intro hg3 ho3); clear hg3 ho3
  go_wp2
  go_ret
  exact out_of HG2.out HO.out.1 HO.out.2 _ rfl
end Go.Proofs.YtmnlidfalhjghaaGreatDoor

/- scalar: is: a wide number held against a narrow one. -/
namespace Go.Proofs.YtmnlidfalhjghaaGreatDoor
open Go.RowKit Ow

theorem sc_eqItems {P : Program} (w : World) (d : Nat) {e : TypeId} {k : IntKind} (he : P.plainKey e = true) (hu : P.underlying e = some (.int k)) (f g : Nat → Int) (xs ys : Array Value) (is : List Nat)
    (hx : ∀ i ∈ is, xs[i * 1]? = some (.int k (f i))) (hy : ∀ i ∈ is, ys[i * 1]? = some (.int k (g i))) : (Op.eqItems (d + 1) e 1 xs ys is).run P w = .ok (is.all fun i => f i == g i) w := by
  induction is with
  | nil => simp [Op.eqItems]
  | cons i r ih =>
    have h1 := run_part_plain w he (hx i (List.mem_cons_self ..))
    have h2 := run_part_plain w he (hy i (List.mem_cons_self ..))
    simp only [Op.eqItems, Sem.run_bind, h1, h2, Result.andThen_ok, run_equalIn_int w d e k k (f i) (g i) hu, List.all_cons]
    cases hfg : f i == g i
    · simp
    · simpa using ih (fun j hj => hx j (List.mem_cons_of_mem _ hj)) (fun j hj => hy j (List.mem_cons_of_mem _ hj))
theorem sc_info_u64 : ∃ i, Tryz.prog.info? 40 = some i := by
  cases h : Tryz.prog.info? 40 with
  | none => exact absurd h (by have : (Tryz.prog.info? 40).isSome = true := by kernel_rfl
                               intro e; rw [e] at this; cases this)
  | some i => exact ⟨i, rfl⟩
theorem eql_narrow (x0 x1 x2 x3 y0 y1 y2 y3 : Int) (w : World) :
    (binOp .eql 44 (.agg #[.int .u64 x0, .int .u64 x1, .int .u64 x2, .int .u64 x3]) (.agg #[.int .u64 y0, .int .u64 y1, .int .u64 y2, .int .u64 y3])).run Tryz.prog w = .ok (.bool (x0 == y0 && (x1 == y1 && (x2 == y2 && x3 == y3)))) w := by
  obtain ⟨j, hj⟩ := sc_info_u64
  have hc : Tryz.prog.cellsOf 40 = 1 := by kernel_rfl
  rw [run_eql_struct, run_equalIn_array w 9999 _ _ Tryz.underlying44 hj, hc,
    sc_eqItems w 9998 (by kernel_rfl) Tryz.underlying40 (fun i => [x0, x1, x2, x3].getD i 0) (fun i => [y0, y1, y2, y3].getD i 0) _ _ _
      (fun i hi => by
        have := List.mem_range.1 hi
        obtain rfl | rfl | rfl | rfl : i = 0 ∨ i = 1 ∨ i = 2 ∨ i = 3 := by omega
        all_goals rfl)
      (fun i hi => by
        have := List.mem_range.1 hi
        obtain rfl | rfl | rfl | rfl : i = 0 ∨ i = 1 ∨ i = 2 ∨ i = 3 := by omega
        all_goals rfl)]
  simp [List.range, List.range.loop]
theorem same_words (m n : Nat) (hm : m < 2 ^ 256) (hn : n < 2 ^ 256) :
    (((Sc.wrd m 0 : Int) == (Sc.wrd n 0 : Int)) && (((Sc.wrd m 1 : Int) == (Sc.wrd n 1 : Int)) && (((Sc.wrd m 2 : Int) == (Sc.wrd n 2 : Int)) && ((Sc.wrd m 3 : Int) == (Sc.wrd n 3 : Int))))) = decide (m = n) := by
  rw [Bool.eq_iff_iff]
  simp only [Bool.and_eq_true, beq_iff_eq, decide_eq_true_iff]
  constructor
  · rintro ⟨h0, h1, h2, h3⟩
    rw [Sc.of4 m hm, Sc.of4 n hn]
    omega
  · rintro rfl; exact ⟨rfl, rfl, rfl, rfl⟩
theorem top_zero (n j : Nat) (h : n < 2 ^ 256) (hj : 4 ≤ j) : Sc.wrd n j = 0 := by
  have h2 : (2 : Nat) ^ 256 ≤ 2 ^ (64 * j) := Nat.pow_le_pow_right (by decide) (by omega)
  unfold Sc.wrd
  rw [Nat.div_eq_of_lt (by omega)]
theorem arr_at (R o cap : Nat) : ∀ w, (Instr.arrayAt 44 (.slice (some ⟨R, o, none⟩) 4 cap)).run Tryz.prog w = .ok (.pointer (some ⟨R, o, none⟩)) w := by
  intro w
  simp [Instr.arrayAt, run_underlying Tryz.underlying44]
set_option maxRecDepth 100000 in
set_option maxHeartbeats 1600000 in
theorem is_any (R m n : Nat) (T : TypeId) (tl : List Value) (w : World) (hm : m < 2 ^ 256) (hn : n < 2 ^ 256) (hb : Blk w R T (wds m 8 ++ tl)) :
    Calls Tryz.prog 29 #[.pointer (some ⟨R, 0, none⟩), narrowV n] w fun e w' => e = .returned (.bool (decide (m = n))) ∧ w.grownBy w' none := by
  have hb1 := hb.alloc (.cells #[wV n 0, wV n 1, wV n 2, wV n 3] 44)
  rw [wds8] at hb1
  have hq := same_words m n hm hn
  have he := eql_narrow (Sc.wrd m 0) (Sc.wrd m 1) (Sc.wrd m 2) (Sc.wrd m 3) (Sc.wrd n 0) (Sc.wrd n 1) (Sc.wrd n 2) (Sc.wrd n 3)
  rw [hq] at he
  clear hq
  have he0 := eql_narrow 0 0 0 0 0 0 0 0
  have z4 := top_zero m 4 hm (by decide)
  have z5 := top_zero m 5 hm (by decide)
  have z6 := top_zero m 6 hm (by decide)
  have z7 := top_zero m 7 hm (by decide)
  have c0 := hb1.cell (i := 0) rfl
  have c1 := hb1.cell (i := 1) rfl
  have c2 := hb1.cell (i := 2) rfl
  have c3 := hb1.cell (i := 3) rfl
  have c4 := hb1.cell (i := 4) rfl
  have c5 := hb1.cell (i := 5) rfl
  have c6 := hb1.cell (i := 6) rfl
  have c7 := hb1.cell (i := 7) rfl
  unfold wV u64N at c0 c1 c2 c3 c4 c5 c6 c7
  rw [z4] at c4
  rw [z5] at c5
  rw [z6] at c6
  rw [z7] at c7
  clear z4 z5 z6 z7 hb hb1
  have hg := gb_alloc (gb_refl w none) (.cells #[wV n 0, wV n 1, wV n 2, wV n 3] 44)
  have HG := Lib.hid hg; clear hg
  have ha0 := arr_at R 0 8
  have ha4 := arr_at R 4 4
  unfold narrowV wV u64N
  by_cases h : m = n
  · rw [decide_eq_true h] at he ⊢
    subst h
    have HG' : Hid (w.grownBy (w.alloc (.cells #[.int .u64 (Sc.wrd m 0 : Int), .int .u64 (Sc.wrd m 1 : Int), .int .u64 (Sc.wrd m 2 : Int), .int .u64 (Sc.wrd m 3 : Int)] 44)) none) := HG
    clear HG
    go_enter Tryz.func29, Tryz.ntmps29
    go_wp2
    go_quiet (fail)
    go_wp2
    go_ret
    exact ⟨rfl, gb_drewN HG'.out _⟩
  · rw [decide_eq_false h] at he ⊢
    have HG' : Hid (w.grownBy (w.alloc (.cells #[.int .u64 (Sc.wrd n 0 : Int), .int .u64 (Sc.wrd n 1 : Int), .int .u64 (Sc.wrd n 2 : Int), .int .u64 (Sc.wrd n 3 : Int)] 44)) none) := HG
    clear HG
    go_enter Tryz.func29, Tryz.ntmps29
    go_wp2
    go_quiet (fail)
    go_wp2
    go_ret
    exact ⟨rfl, gb_drewN HG'.out _⟩
end Go.Proofs.YtmnlidfalhjghaaGreatDoor

/- scalar: Right. -/
namespace Go.Proofs.YtmnlidfalhjghaaGreatDoor
open Go.RowKit Ow
set_option maxRecDepth 100000 in
set_option maxHeartbeats 1600000 in
theorem sright_any (cap B : Nat) (a : Option Addr) (l : List Nat) (w : World) (hl : l.length = 32) (hP : BytesAt w B a cap l) (hT : OTab w) :
    Calls Tryz.prog 12 #[.slice a 32 cap] w fun e w' => e = .returned (.bool (decide (num l < Sc.L))) ∧ w.grownBy w' none := by
  have hN := num_top l hP.byte (by omega)
  have h256 := num_256 l hP.byte (by omega)
  have hB := hP.lim
  have HP := Lib.hid hP; clear hP
  have HT := Lib.hid hT; clear hT
  have HL := Lib.hid hl; clear hl
  have hb := Blk.new w zeros12 46
  have hg := gb_alloc (gb_refl w none) (.cells zeros12.toArray 46)
  have hO : 0 < w.heap.size := HT.out.lt
  have hb0 : Blk (w.alloc (.cells zeros12.toArray 46)) w.heap.size 46 ([.int .u64 0, .int .u64 0, .int .u64 0, .int .u64 0, .int .u64 0, .int .u64 0, .int .u64 0, .int .u64 0] ++ [.int .u64 0, .int .u64 0, .int .u64 0, .int .u64 0]) := hb
  have HB := Lib.hid hb0; clear hb hb0
  have HG := Lib.hid hg; clear hg
  have HN := Lib.hid hN; clear hN
  have H256 := Lib.hid h256; clear h256
  go_enter Tryz.func12, Tryz.ntmps12
  go_wp2_with fail
  refine (load_any w.heap.size 32 cap B _ _ _ a l _ HL.out (by omega) rfl (HP.out.stay HG.out) hB HB.out).mono ?_
  rintro e w1 ⟨rfl, hg1, hb1⟩
  have HG1 := Lib.hid (gb_then HG.out hg1 (Nat.le_refl _)); clear hg1
  have HB1 := Lib.hid hb1; clear hb1
  go_wp2_with fail
  refine (modulo_any w.heap.size (num l) _ _ _ _ _ w1 HN.out (HT.out.kept HG1.out (fun r e => by cases e)) hO HB1.out).mono ?_
  rintro e w2 ⟨rfl, hg2, hb2⟩
  have HG2 := Lib.hid (gb_then HG1.out hg2 (Nat.le_refl _)); clear hg2
  have HB2 := Lib.hid hb2; clear hb2
  go_wp2_with fail
  refine (is_any w.heap.size (num l) (num l % Sc.L) _ _ w2 H256.out (Sc.lt256 _ (Sc.mod_lt _)) HB2.out).mono ?_
  rintro e w3 ⟨rfl, hg3⟩
  have HG3 := Lib.hid (gb_trans HG2.out hg3); clear hg3
  go_wp2
  go_ret
  refine ⟨?_, HG3.out⟩
  have e : decide (num l = num l % Sc.L) = decide (num l < Sc.L) := by
    rw [Bool.eq_iff_iff, decide_eq_true_iff, decide_eq_true_iff]
    constructor
    · intro h; rw [h]; exact Sc.mod_lt _
    · intro h; rw [Nat.mod_eq_of_lt h]
  rw [← e]; rfl
end Go.Proofs.YtmnlidfalhjghaaGreatDoor

/- scalar: MulAdd. -/
namespace Go.Proofs.YtmnlidfalhjghaaGreatDoor
open Go.RowKit Ow
theorem mul_top (x y z : Nat) (hx : x < 2 ^ 256) (hy : y < 2 ^ 256) (hz : z < 2 ^ 256) : (x * y + z) / 2 ^ (64 * 8) = 0 := by
  have h := Sc.part_lt x y z 4 hy hz
  rw [Sc.part_end x y z hx] at h
  have h2 := div_top (x * y + z) (64 * (4 + 4)) (64 * 8) h (Nat.le_refl _)
  exact h2
set_option maxRecDepth 100000 in
set_option maxHeartbeats 1600000 in
theorem mulAddB_any (ca cb cc Ba Bb Bc : Nat) (a b c : Option Addr) (x y z : List Nat) (w : World) (hx : x.length = 32) (hy : y.length = 32) (hz : z.length = 32) (hA : BytesAt w Ba a ca x) (hB : BytesAt w Bb b cb y) (hC : BytesAt w Bc c cc z) (hT : OTab w) :
    Calls Tryz.prog 19 #[.slice a 32 ca, .slice b 32 cb, .slice c 32 cc] w (OutB (scB (num x * num y + num z)) w) := by
  have hx2 := num_256 x hA.byte (by omega)
  have hy2 := num_256 y hB.byte (by omega)
  have hz2 := num_256 z hC.byte (by omega)
  have hN := mul_top _ _ _ hx2 hy2 hz2
  have HP := Lib.hid (And.intro (And.intro hx hA) (And.intro (And.intro hy hB) (And.intro hz hC))); clear hA hB hC hx hy hz
  have HN := Lib.hid (And.intro hN (And.intro hx2 (And.intro hy2 hz2))); clear hN hx2 hy2 hz2
  have hO : 0 < w.heap.size := hT.lt
  have HT := Lib.hid hT; clear hT
  go_enter Tryz.func19, Tryz.ntmps19
  have hb := Blk.new w zeros12 46
  have hg := gb_alloc (gb_refl w none) (.cells zeros12.toArray 46)
  have hb0 : Blk (w.alloc (.cells zeros12.toArray 46)) w.heap.size 46 ([.int .u64 0, .int .u64 0, .int .u64 0, .int .u64 0, .int .u64 0, .int .u64 0, .int .u64 0, .int .u64 0] ++ [.int .u64 0, .int .u64 0, .int .u64 0, .int .u64 0]) := hb
  have HB := Lib.hid hb0; clear hb hb0
  have HG := Lib.hid hg; clear hg
  go_wp2_with fail
  refine (narrowOf_any 32 ca Ba a x _ HP.out.1.1 (by omega) (HP.out.1.2.stay HG.out)).mono ?_
  rintro e w1 ⟨rfl, hg1⟩
  have HG1 := Lib.hid (gb_trans HG.out hg1)
  have HB1 := Lib.hid (HB.out.grown hg1 (by simp)); clear hg1
  go_wp2_with fail
  refine (narrowOf_any 32 cb Bb b y w1 HP.out.2.1.1 (by omega) (HP.out.2.1.2.stay HG1.out)).mono ?_
  rintro e w2 ⟨rfl, hg2⟩
  have HG2 := Lib.hid (gb_trans HG1.out hg2)
  have HB2 := Lib.hid (HB1.out.grown hg2 (by simp)); clear hg2
  go_wp2_with fail
  refine (narrowOf_any 32 cc Bc c z w2 HP.out.2.2.1 (by omega) (HP.out.2.2.2.stay HG2.out)).mono ?_
  rintro e w3 ⟨rfl, hg3⟩
  have HG3 := Lib.hid (gb_trans HG2.out hg3)
  have HB3 := Lib.hid (HB2.out.grown hg3 (by simp)); clear hg3
  go_wp2_with fail
  refine (mulAdd_any w.heap.size (num x) (num y) (num z) _ _ _ w3 rfl HN.out.2.1 HN.out.2.2.1 HN.out.2.2.2 HB3.out).mono ?_
  rintro e w4 ⟨rfl, hg4, hb4⟩
  have HG4 := Lib.hid (gb_then HG3.out hg4 (Nat.le_refl _)); clear hg4
  have HB4 := Lib.hid hb4; clear hb4
  go_wp2_with fail
  refine (modulo_any w.heap.size (num x * num y + num z) _ _ _ _ _ w4 HN.out.1 (HT.out.kept HG4.out (fun r e => by cases e)) hO HB4.out).mono ?_
  rintro e w5 ⟨rfl, hg5, _⟩
  have HG5 := Lib.hid (gb_then HG4.out hg5 (Nat.le_refl _)); clear hg5
  go_wp2_with fail
  refine (nbytes_any ((num x * num y + num z) % Sc.L) w5).mono ?_
  rintro e w6 ⟨g, rfl, hg6, ho6⟩
  have HO := Lib.hid (And.intro hg6 ho6); clear hg6 ho6
  go_wp2
  go_ret
  exact out_of HG5.out HO.out.1 HO.out.2 _ rfl
end Go.Proofs.YtmnlidfalhjghaaGreatDoor

/- scalar: Reduce, Right, MulAdd: what the package tells. -/
namespace Go.Proofs.YtmnlidfalhjghaaGreatDoor
open Go.RowKit Ow

end Go.Proofs.YtmnlidfalhjghaaGreatDoor

/- scalar: Bits: the bits of 32 bytes, one by one (eachBit). -/
namespace Go.Proofs.YtmnlidfalhjghaaGreatDoor
open Go.RowKit Ow Go.Shelf
attribute [local go_sem] Oper.semAt_some

/-- bit j of bytes -/
def bitAt (f : Nat → Nat) (j : Nat) : Bool := decide (f (j / 8) / 2 ^ (j % 8) % 2 = 1)
def bitsTo (f : Nat → Nat) (k : Nat) : List Bool := (List.range k).map (bitAt f)
theorem bitsTo_succ (f : Nat → Nat) (k : Nat) : bitsTo f (k + 1) = bitsTo f k ++ [bitAt f k] := by simp [bitsTo, List.range_succ]
theorem bitsTo_length (f : Nat → Nat) (k : Nat) : (bitsTo f k).length = k := by simp [bitsTo]
theorem bit_is (x j : Nat) (hx : x < 256) : (bits .and .u8 ((x : Int) / 2 ^ j) 1 == 1) = decide (x / 2 ^ j % 2 = 1) := by
  have all : ∀ j : Fin 256, (bits .and .u8 (j.val : Int) 1 == 1) = decide (j.val % 2 = 1) := by decide +kernel
  have hl : x / 2 ^ j < 256 := Nat.lt_of_le_of_lt (Nat.div_le_self _ _) hx
  have e : (x : Int) / 2 ^ j = ((x / 2 ^ j : Nat) : Int) := by rw [Int.natCast_ediv, Int.natCast_pow]; rfl
  rw [e]
  exact all ⟨x / 2 ^ j, hl⟩
def KeepsB (pb po Bs : Nat) (W W' : World) : Prop := (∀ j, j < 32 → W'.cell? ⟨pb, po + j, none⟩ = W.cell? ⟨pb, po + j, none⟩) ∧ W'.cell? ⟨Bs, 0, none⟩ = W.cell? ⟨Bs, 0, none⟩
theorem keepsB_t {pb po Bs : Nat} {A B C : World} (h : KeepsB pb po Bs A B) (k : KeepsB pb po Bs B C) : KeepsB pb po Bs A C := ⟨fun j hj => (k.1 j hj).trans (h.1 j hj), k.2.trans h.2⟩
theorem keepsB_b {pb po Bs n : Nat} (hR : pb < n) (hB : Bs < n) (W : World) (l : Nat) (o o' : Obj) (hl : n ≤ l) (h : W.heap[l]? = some o) : KeepsB pb po Bs W (W.putObj l o') := by
  have hlt : l < W.heap.size := (Array.getElem?_eq_some_iff.1 h).1
  exact ⟨fun j _ => gb_cell (grownBy_putObj' W l o') (p := ⟨pb, po + j, none⟩) (show pb < _ by omega) (some_ne' (by show pb ≠ l; omega)), gb_cell (grownBy_putObj' W l o') (p := ⟨Bs, 0, none⟩) (show Bs < _ by omega) (some_ne' (by show Bs ≠ l; omega))⟩
set_option maxHeartbeats 1000000 in
theorem eachBit_in (F : Fence) (n : Nat) (hf : F.fn 27) (hro : F.round = none) (a : Option Addr) (len cap : Nat) (w : World) :
    CallsIn F n Tryz.prog 27 #[.slice a len cap] w fun e w' => e = .returned (.func (.func 41) #[] #[.pointer (some ⟨w.heap.size, 0, none⟩)]) ∧ w' = w.alloc (.cells #[.slice a len cap] 22) := by
  refine callsIn_of_wp Tryz.func27 rfl hf ?_ hro
  simp only [Tryz.ntmps27, List.size_toArray, List.length_cons, List.length_nil, Nat.reduceAdd, Nat.reduceSub, Array.replicate_succ, Array.replicate_zero, List.push_toArray, List.append_toArray, List.nil_append, List.cons_append]
  gi_wp2
  go_ret
  exact ⟨rfl, rfl⟩
set_option maxRecDepth 100000 in
set_option maxHeartbeats 2000000 in
theorem eachBit1_in (F : Fence) (n : Nat) (hf : F.fn 41) (hro : F.round = none) (hn : 1 ≤ n) (l Bs pb po cap : Nat) (f : Nat → Nat) (hfb : ∀ i, f i < 256) (J Jx : List Bool → World → Prop)
    (hY : ∀ pre x W, J pre W → pre.length < 256 → YieldAt F (n - 1) Tryz.prog l #[.bool x] W fun e W' =>
      (e = .returned (.bool true) ∧ J (pre ++ [x]) W' ∧ KeepsB pb po Bs W W') ∨ (e = .returned (.bool false) ∧ Jx (pre ++ [x]) W'))
    (W : World) (hBs : W.cell? ⟨Bs, 0, none⟩ = some (.slice (some ⟨pb, po, none⟩) 32 cap)) (hc : ∀ j, j < 32 → W.cell? ⟨pb, po + j, none⟩ = some (.int .u8 (f j : Int))) (h0 : J [] W) :
    CallsIn F n Tryz.prog 41 #[.func (.yield l) #[] #[], .pointer (some ⟨Bs, 0, none⟩)] W fun e W' => (∃ v, e = .returned v) ∧
      ((∃ ys, ys = bitsTo f 256 ∧ J ys W') ∨ (∃ pre, True ∧ Jx pre W')) := by
  have HC := Lib.hid hc; clear hc
  have HF := Lib.hid hfb; clear hfb
  refine callsIn_of_wp Tryz.func41 rfl hf ?_ hro
  simp only [Tryz.ntmps41, List.size_toArray, List.length_cons, List.length_nil, Nat.reduceAdd, Nat.reduceSub, Array.replicate_succ, Array.replicate_zero, List.push_toArray, List.append_toArray, List.nil_append, List.cons_append]
  gi_wp2
  clear hBs
  gi_loopw [8] (fun i wr => ∃ k : Nat, k ≤ 32 ∧ i = .int .i64 k ∧ J (bitsTo f (8 * k)) wr ∧ KeepsB pb po Bs W wr) (fun i _ => 32 - (intOf i).toNat)
  case atStart => exact ⟨0, by omega, rfl, h0, ⟨fun _ _ => rfl, rfl⟩⟩
  case round =>
    obtain ⟨k, hk, rfl, hJs, hnx⟩ := hrel
    by_cases hkl : k < 32
    · have hcx : wr.cell? ⟨pb, po + k, none⟩ = some (.int .u8 (f k : Int)) := (hnx.1 k hkl).trans (HC.out k hkl)
      obtain ⟨x, hx⟩ : ∃ x, x = f k := ⟨_, rfl⟩
      have hxl : x < 256 := by rw [hx]; exact HF.out k
      rw [← hx] at hcx
      have HX := Lib.hid hx; clear hx
      have i0 : (k : Int) < 32 := by omega
      gi_wp2
      clear hcx
      gi_loopw [12] (fun t wr' => ∃ j : Nat, j ≤ 8 ∧ t = .int .i64 j ∧ J (bitsTo f (8 * k + j)) wr' ∧ KeepsB pb po Bs W wr') (fun t _ => 8 - (intOf t).toNat)
      case atStart => exact ⟨0, by omega, rfl, hJs, hnx⟩
      case round =>
        clear hJs hnx
        obtain ⟨j, hj, rfl, hJs, hnx⟩ := hrel
        by_cases hjl : j < 8
        · obtain ⟨fn, tmps, assign, body, hy, hR⟩ := hY _ (bitAt f (8 * k + j)) wr hJs (by rw [bitsTo_length]; omega)
          have hb : bitAt f (8 * k + j) = (bits .and .u8 ((x : Int) / 2 ^ j) 1 == 1) := by
            rw [bit_is x j hxl, HX.out]
            unfold bitAt
            rw [show (8 * k + j) / 8 = k by omega, show (8 * k + j) % 8 = j by omega]
          rw [hb] at hy
          have HBI := Lib.hid hb; clear hb
          gi_wp2
          refine hR.mono ?_
          rintro e W3 (⟨rfl, hJ3, hk3⟩ | ⟨rfl, hJx3⟩)
          · rw [← bitsTo_succ] at hJ3
            gi_wp2
            go_roundw
            case rel => exact ⟨j + 1, by omega, by go_num, hJ3, keepsB_t hnx hk3⟩
            case measure => simp [intOf]; omega
          · gi_wp2
            refine bodyPost_ret (results_none rfl _ _ _) rfl ?_
            exact ⟨⟨_, rfl⟩, .inr ⟨_, trivial, hJx3⟩⟩
        · obtain rfl : j = 8 := by omega
          gi_wp2
          go_roundw
          case rel => exact ⟨k + 1, by omega, by go_num, by rw [show 8 * (k + 1) = 8 * k + 8 by omega]; exact hJs, hnx⟩
          case measure => simp [intOf]; omega
    · obtain rfl : k = 32 := by omega
      gi_wp2
      go_end0
      exact ⟨⟨_, rfl⟩, .inl ⟨_, rfl, hJs⟩⟩
theorem eachBit_stops (F : Fence) (n : Nat) (hf : F.fn 41) (hro : F.round = none) (hn : 1 ≤ n) (Bs pb po cap : Nat) (f : Nat → Nat) (hfb : ∀ i, f i < 256) (w : World) (hBs : Bs < w.heap.size) (hR : pb < w.heap.size)
    (hb : w.cell? ⟨Bs, 0, none⟩ = some (.slice (some ⟨pb, po, none⟩) 32 cap)) (hc : ∀ j, j < 32 → w.cell? ⟨pb, po + j, none⟩ = some (.int .u8 (f j : Int))) :
    SeqStopsK F n Tryz.prog 41 #[.pointer (some ⟨Bs, 0, none⟩)] (fun x => #[.bool x]) (KeepsB pb po Bs) (fun ys => ys = bitsTo f 256) (fun _ => True) 256 w := fun l J Jx W hW _ _ hY h0 =>
  eachBit1_in F n hf hro hn l Bs pb po cap f hfb J Jx hY W ((hW.cell (p := ⟨Bs, 0, none⟩) hBs).trans hb) (fun j hj => (hW.cell (p := ⟨pb, po + j, none⟩) hR).trans (hc j hj)) h0
end Go.Proofs.YtmnlidfalhjghaaGreatDoor

/- scalar: Bits, whole. -/
namespace Go.Proofs.YtmnlidfalhjghaaGreatDoor
open Go.RowKit Ow Go.Shelf
attribute [local go_sem] Oper.semAt_some

theorem info_bool : ∃ i z, Tryz.prog.info? 4 = some i ∧ i.zero = some z ∧ i.size = 1 ∧ i.bytes = 1 ∧ z.cells.size = 1 := by
  have h : (Tryz.prog.info? 4).map (fun i => (i.zero.map (·.cells.size), i.size, i.bytes)) = some (some 1, 1, 1) := by kernel_rfl
  cases hi : Tryz.prog.info? 4 with
  | none => rw [hi] at h; cases h
  | some i =>
    rw [hi] at h
    simp only [Option.map_some, Option.some.injEq, Prod.mk.injEq] at h
    cases hz : i.zero with
    | none => rw [hz] at h; cases h.1
    | some z => rw [hz] at h; exact ⟨i, z, rfl, hz, h.2.1, h.2.2, by simpa using h.1⟩
theorem append_bool_fits (w : World) (base g n0 c : Nat) (x : Bool) (xs : List Value) (hown : w.ownsRow base 4 1 (.slice (some ⟨g, 0, none⟩) n0 c) n0 xs) (hroom : n0 + 1 ≤ c) :
    ∃ w', (Builtin.append_ #[25, 25] 25 #[.slice (some ⟨g, 0, none⟩) n0 c, .slice (some ⟨w.heap.size, 0, none⟩) 1 1]).run Tryz.prog (w.alloc (.cells #[.bool x] 4)) = .ok (.slice (some ⟨g, 0, none⟩) (n0 + 1) c) w' ∧ w'.ownsRow base 4 1 (.slice (some ⟨g, 0, none⟩) (n0 + 1) c) (n0 + 1) (xs ++ [.bool x]) ∧ w.grownBy w' (some g) := by
  obtain ⟨i, z, hi, hz, hs, hb, hc⟩ := info_bool
  obtain ⟨w', hr, ho, hg⟩ := run_append_fits (w.alloc (.cells #[.bool x] 4)) base 25 25 4 i 1 (P := Tryz.prog) Tryz.underlying25 hi hs g n0 c xs (hown.alloc _) ⟨w.heap.size, 0, none⟩ 1 1 [.bool x] rfl (fun j u hu => by
      have hj : j = 0 := by
        rcases Nat.eq_zero_or_pos j with h | h
        · exact h
        · rw [List.getElem?_eq_none (by simp; omega)] at hu; cases hu
      subst hj
      rw [show Value.bool x = u by simpa using hu]
      exact (Blk.new w [u] 4).cell (i := 0) rfl) (fun u hu => by rw [List.mem_singleton.1 hu]; rfl) hroom
  exact ⟨w', hr, ho, gb_trans (gb_alloc (gb_refl _ _) _) hg⟩
theorem wpListIn_append_run {F : Fence} {n : Nat} {P : Program} (w : World) {ops : Array Oper} {rest : List Oper} {o : Oper} {a : Act} {Q : Exit → Act → World → Prop}
    (hg : o.guard = none) (s x : Operand) (t : TypeId) (hop : o.op = Op.call { callee := Callee.builtin Builtin.append, args := #[s, x], argTypes := #[t, t] }) (ht : o.type = t) (v y : Value) (hs : a.eval s = v) (hx : a.eval x = y) (v' : Value) (w' : World)
    (hrun : (Builtin.append_ #[t, t] t #[v, y]).run P w = .ok v' w') (hK : wpListIn F n P ops Q rest (a.put o.dst v') w') : wpListIn F n P ops Q (o :: rest) a w := by
  refine wpListIn_plain hg fun K hK' => ?_
  rw [← ht] at hrun
  unfold Oper.wpIn
  refine ⟨?_, ?_⟩
  · simp [Oper.about, hop, resolve, Target.leads, Sem.run_pure]
  · rw [Oper.semAt_plain F _ _ (by rw [hop]; intro c hc'; cases hc')]
    simp [execOp, hop, resolve, invoke, builtin, hs, hx, ← ht, hrun, Result.andThen]
    exact hK' _ _ hK
/-- what holds between two bits -/
structure BitI (w : World) (pb po cap : Nat) (f : Nat → Nat) (pre : List Bool) (W : World) : Prop where
  row : W.ownsRow w.heap.size 4 1 (.slice (some ⟨w.heap.size, 0, none⟩) pre.length 256) pre.length (pre.map .bool)
  box : Blk W (w.heap.size + 1) 25 [.slice (some ⟨w.heap.size, 0, none⟩) pre.length 256]
  grown : w.grownBy W none
  size : w.heap.size + 3 ≤ W.heap.size
theorem bitI_own (w : World) (pb po cap : Nat) (f : Nat → Nat) (n : Nat) (hn : w.heap.size < n) : OwnFrom n (BitI w pb po cap f) := fun s A B row h hg hr =>
  ⟨h.row.kept hg (Or.inr (fun e => by have := (hr _ e.symm).1; simp at this; omega)), blk_from h.box hg hr, gb_from h.grown hg (fun r e => by have := (hr r e).1; omega), Nat.le_trans h.size hg.size⟩
/-- bits that lie in a new block, as a slice -/
def OutT (l : List Bool) (w : World) (e : Ending) (w' : World) : Prop := ∃ g, e = .returned (.slice (some ⟨g, 0, none⟩) l.length l.length) ∧ w.grownBy w' none ∧ w.heap.size ≤ g ∧ Blk w' g 4 (l.map .bool)
set_option maxRecDepth 100000 in
set_option maxHeartbeats 2000000 in
theorem bits_fn (cap pb po : Nat) (f : Nat → Nat) (w : World) (hf : ∀ i, f i < 256) (hpb : pb < w.heap.size) (hc : ∀ j, j < 32 → w.cell? ⟨pb, po + j, none⟩ = some (.int .u8 (f j : Int))) :
    Calls Tryz.prog 9 #[.slice (some ⟨pb, po, none⟩) 32 cap] w (OutT (bitsTo f 256) w) := by
  have HF := Lib.hid hf; clear hf
  have HC := Lib.hid hc; clear hc
  obtain ⟨i, z, hi, hz, hs, hb, hcc⟩ := info_bool
  obtain ⟨w1, hmk, ho1, hg1⟩ := run_make_own w w.heap.size 25 4 i z 1 (P := Tryz.prog) Tryz.underlying25 hi hz hs .i64 .i64 256 (by rw [hb]; omega) (by unfold maxLen; omega) (Nat.le_refl _)
  have hmk' : (Instr.makeSlice 25 (.int .i64 0) (.int .i64 256)).run Tryz.prog w = .ok (.slice (some ⟨w.heap.size, 0, none⟩) 0 256) w1 := hmk
  have hs1 : w1.heap.size = w.heap.size + 1 := by
    have h2 := run_make (P := Tryz.prog) w 25 4 i z Tryz.underlying25 hi hz .i64 .i64 0 256 (by omega) (by omega) (by rw [hb]; omega) (by omega)
    rw [hmk'] at h2
    injection h2 with _ h3
    rw [h3]; simp
  clear hmk hi hz hs hb hcc
  refine (callsIn_wide (n := 9)).1 ?_
  refine callsIn_of_wp_marks Tryz.func9 rfl trivial ?_ rfl
  simp only [Tryz.ntmps9, List.size_toArray, List.length_cons, List.length_nil, Nat.reduceAdd, Nat.reduceSub, Array.replicate_succ, Array.replicate_zero, List.push_toArray, List.append_toArray, List.nil_append, List.cons_append]
  gi_wp2_with fail
  refine ⟨trivial, ?_⟩
  have hX := blk_at w1 (B := w.heap.size + 1) [.slice (some ⟨w.heap.size, 0, none⟩) 0 256] 25 hs1
  have ho2 := ho1.alloc (.cells #[.slice (some ⟨w.heap.size, 0, none⟩) 0 256] 25)
  have hg2 := gb_alloc hg1 (.cells #[.slice (some ⟨w.heap.size, 0, none⟩) 0 256] 25)
  have hs2 : (w1.alloc (.cells #[.slice (some ⟨w.heap.size, 0, none⟩) 0 256] 25)).heap.size = w.heap.size + 2 := by simp [hs1]
  clear ho1 hg1 hs1 hmk'
  revert hX ho2 hg2 hs2
  generalize w1.alloc (.cells #[.slice (some ⟨w.heap.size, 0, none⟩) 0 256] 25) = w2
  intro hX ho2 hg2 hs2
  refine (eachBit_in Fence.wide 8 trivial rfl _ _ _ _).mono ?_
  rintro e w3 ⟨rfl, hw3⟩
  have hI : BitI w pb po cap f [] w3 := by
    subst hw3
    exact ⟨ho2.alloc _, hX.alloc _, gb_alloc hg2 _, by simp [hs2]⟩
  have hBs : Blk w3 (w.heap.size + 2) 22 [.slice (some ⟨pb, po, none⟩) 32 cap] := by
    subst hw3
    exact blk_at w2 [.slice (some ⟨pb, po, none⟩) 32 cap] _ hs2
  have hs3 : w3.heap.size = w.heap.size + 3 := by subst hw3; simp [hs2]
  rw [hs2]
  clear hw3 hX ho2 hg2 hs2
  have HI := Lib.hid hI; clear hI
  gi_wp2_with fail
  have hRN : ∀ j, j < 32 → w3.cell? ⟨pb, po + j, none⟩ = some (.int .u8 (f j : Int)) := fun j hj => by rw [gb_cell HI.out.grown (p := ⟨pb, po + j, none⟩) hpb (by simp)]; exact HC.out j hj
  refine wpIn_rangeFunc_ownG (F := Fence.wide) (n := 9) rfl (by decide) (gf := 41) (lb := #[.pointer (some ⟨w.heap.size + 2, 0, none⟩)]) rfl trivial (enters_of Tryz.func41 (by kernel_rfl) rfl)
    (w0 := w3) (eachBit_stops Fence.wide 8 trivial rfl (by decide) (w.heap.size + 2) pb po cap f HF.out w3 (by omega) (by omega) (hBs.cell (i := 0) rfl) hRN)
    (fun h k => keepsB_t h k) (fun W l o o' hl h _ _ => keepsB_b (n := w3.heap.size) (by omega) (by omega) W l o o' hl h) (Below.refl _ _) (fun _ => rfl)
    (BitI w pb po cap f) (fun _ _ _ => False) (bitI_own w pb po cap f _ (by omega)) (fun _ _ _ _ _ h _ _ => h) HI.out
    (fun x => { tmps := #[.slice (some ⟨pb, po, none⟩) 32 cap, undef, .slice none 0 0, .pointer (some ⟨w.heap.size + 1, 0, none⟩), .bool x, .slice (some ⟨pb, po, none⟩) 32 cap, .int .i64 32, .bool false, .slice (some ⟨w.heap.size, 0, none⟩) 0 256, .slice (some ⟨pb, po, none⟩) 32 cap, .func (.func 41) #[] #[.pointer (some ⟨w.heap.size + 2, 0, none⟩)], .bool x, undef, undef, undef, undef, undef], defers := [] }) ?assign ?body ?done ?stop
  case assign =>
    intro l x W K hK
    gi_wp2
    exact hK
  case body =>
    rintro l pre x W hI hlen
    obtain ⟨w4, hap, ho4, hg4⟩ := append_bool_fits W w.heap.size w.heap.size pre.length 256 x _ hI.row (by omega)
    have hb4 := hI.box.grown hg4 (some_ne' (by omega))
    have c0 := hI.box.cell (i := 0) rfl
    have c4 := hb4.cell (i := 0) rfl
    have f4 := hb4.free 0
    have HAP := Lib.hid hap; clear hap
    have HJ := Lib.hid (And.intro hI (And.intro ho4 (And.intro hg4 hb4))); clear hI ho4 hg4 hb4
    gi_wp2_with (gi_at_builtin; refine wpListIn_append_run _ rfl (.tmp 12) (.tmp 14) 25 rfl rfl _ _ rfl rfl _ _ HAP.out ?_)
    obtain ⟨hI, ho4, hg4, hb4⟩ := HJ.out
    have hg5 := gb_set (gb_refl w4 (some (w.heap.size + 1))) 0 (Value.slice (some ⟨w.heap.size, 0, none⟩) (pre.length + 1) 256)
    have hb5 := hb4.set 0 (Value.slice (some ⟨w.heap.size, 0, none⟩) (pre.length + 1) 256)
    have hk5 := (KeepsFrom.of_grownBy (B := w3.heap.size) hg4 (fun j e => by cases e; omega)).trans (KeepsFrom.of_grownBy (B := w3.heap.size) hg5 (fun j e => by cases e; omega))
    have hpW : pb < W.heap.size := by have := hI.size; omega
    have hp4 : pb < w4.heap.size := Nat.lt_of_lt_of_le hpW hg4.size
    have hqW : w.heap.size + 2 < W.heap.size := by have := hI.size; omega
    have hq4 : w.heap.size + 2 < w4.heap.size := Nat.lt_of_lt_of_le hqW hg4.size
    have e1 : (pre ++ [x]).length = pre.length + 1 := by simp
    have e2 : (pre ++ [x]).map Value.bool = pre.map Value.bool ++ [Value.bool x] := by simp
    refine ⟨hk5, ⟨fun j hj => ?_, ?_⟩, ?_⟩
    · rw [gb_cell hg5 (p := ⟨pb, po + j, none⟩) hp4 (some_ne' (by show pb ≠ w.heap.size + 1; omega)), gb_cell hg4 (p := ⟨pb, po + j, none⟩) hpW (some_ne' (by show pb ≠ w.heap.size; omega))]
    · rw [gb_cell hg5 (p := ⟨w.heap.size + 2, 0, none⟩) hq4 (some_ne' (by show w.heap.size + 2 ≠ w.heap.size + 1; omega)), gb_cell hg4 (p := ⟨w.heap.size + 2, 0, none⟩) hqW (some_ne' (by show w.heap.size + 2 ≠ w.heap.size; omega))]
    · refine ⟨?_, ?_, gb_then (gb_then hI.grown hg4 (Nat.le_refl _)) hg5 (by omega), Nat.le_trans hI.size (Nat.le_trans hg4.size hg5.size)⟩
      · rw [e1, e2]
        exact ho4.kept hg5 (Or.inr (some_ne' (by show w.heap.size ≠ w.heap.size + 1; omega)))
      · rw [e1]; exact hb5
  case done =>
    rintro D ys W hD rfl hI hK
    have hl := bitsTo_length f 256
    have hrow := hI.row
    have hbox := hI.box.cell (i := 0) rfl
    rw [hl] at hrow hbox
    obtain ⟨hbk, hge⟩ := own_blk hrow
    have HJ := Lib.hid (And.intro hI.grown hbk); clear hI hrow hbk hl
    gi_wp2
    have hp := grownBy_putObj' W D (.deferred none)
    have hb5 := HJ.out.2.grown hp (some_ne' (by omega))
    have hg5 := gb_then HJ.out.1 hp (by omega)
    refine ⟨by simp, .inl ⟨_, _, rfl, run_takeDeferred hK, ?_⟩⟩
    refine ⟨.slice (some ⟨w.heap.size, 0, none⟩) 256 256, ?_, w.heap.size, by rw [bitsTo_length], hg5, hge, hb5⟩
    simp [results, Tryz.results9, go_sem]
  case stop =>
    rintro D c pre W _ _ h _
    exact h.elim
theorem bits_any (cap B : Nat) (a : Option Addr) (l : List Nat) (w : World) (hl : l.length = 32) (hP : BytesAt w B a cap l) :
    Calls Tryz.prog 9 #[.slice a 32 cap] w (OutT (bitsTo (fun i => l.getD i 0) 256) w) := by
  obtain ⟨pb, po, rfl, hpb, hpc⟩ := hP.cells.resolve_left (by omega)
  exact bits_fn cap pb po _ w hP.byte (Nat.lt_of_lt_of_le hpb hP.lim) fun j hj => hpc j (by omega)
end Go.Proofs.YtmnlidfalhjghaaGreatDoor

/- The kit's SameBytes: whether two slices hold the same bytes. -/
namespace Go.Proofs.YtmnlidfalhjghaaGreatDoor
open Go.RowKit Ow

theorem getD_at (l : List Nat) (i : Nat) (h : i < l.length) : l.getD i 0 = l[i] := by rw [List.getD_eq_getElem?_getD, List.getElem?_eq_getElem h]; rfl
theorem list_same {p q : List Nat} (h : p.length = q.length) (hi : ∀ i, i < p.length → p.getD i 0 = q.getD i 0) : p = q := by
  apply List.ext_getElem h
  intro i h1 h2
  rw [← getD_at p i h1, ← getD_at q i h2]
  exact hi i h1
set_option maxHeartbeats 400000 in
theorem sameBytes_any (B1 B2 n m c1 c2 : Nat) (a1 a2 : Option Addr) (p q : List Nat) (w : World) (hn : p.length = n) (hm : q.length = m) (h1 : BytesAt w B1 a1 c1 p) (h2 : BytesAt w B2 a2 c2 q) :
    Calls Tryz.prog 10 #[.slice a1 n c1, .slice a2 m c2] w fun e w' => e = .returned (.bool (decide (p = q))) ∧ w.grownBy w' none := by
  have hn1 := h1.fits
  have hn2 := h2.fits
  have ht1 := h1.top
  have ht2 := h2.top
  rw [hn] at hn1
  rw [hm] at hn2
  have H1 := Lib.hid h1; clear h1
  have H2 := Lib.hid h2; clear h2
  have HN := Lib.hid hn; clear hn
  have HM := Lib.hid hm; clear hm
  by_cases hnm : n = m
  · subst hnm
    go_enter Tryz.func10, Tryz.ntmps10
    go_wp2
    go_loopw [5] (fun i wr => ∃ k j : Nat, k ≤ n ∧ i = .int .i64 k ∧ wr = w.drewN j ∧ ∀ i, i < k → p.getD i 0 = q.getD i 0) (fun i _ => n - (intOf i).toNat)
    case atStart => exact ⟨0, 0, by omega, rfl, rfl, fun i hi => absurd hi (by omega)⟩
    case round =>
      obtain ⟨k, j, hk, rfl, rfl, heq⟩ := hrel
      have HE := Lib.hid heq; clear heq
      by_cases hlt : k < n
      · obtain ⟨pb, po, rfl, _, hc⟩ := H1.out.cells.resolve_left (by rw [HN.out]; omega)
        obtain ⟨qb, qo, rfl, _, hd⟩ := H2.out.cells.resolve_left (by rw [HM.out]; omega)
        have k1 := hc k (by rw [HN.out]; exact hlt)
        have k2 := hd k (by rw [HM.out]; exact hlt)
        unfold u8N at k1 k2
        clear hc hd
        have i0 : (k : Int) < (n : Int) := by omega
        obtain ⟨x, hx⟩ : ∃ x, x = p.getD k 0 := ⟨_, rfl⟩
        obtain ⟨y, hy⟩ : ∃ y, y = q.getD k 0 := ⟨_, rfl⟩
        rw [← hx] at k1
        rw [← hy] at k2
        have HXY := Lib.hid (And.intro hx hy); clear hx hy
        by_cases hxy : x = y
        · subst hxy
          go_wp2_with fail
          go_quiet (fail)
          go_wp2
          go_roundw
          case rel => exact ⟨k + 1, _, by omega, by go_num, rfl, fun i hi => by
            rcases Nat.lt_or_ge i k with h | h
            · exact HE.out i h
            · obtain rfl : i = k := by omega
              rw [← HXY.out.1, ← HXY.out.2]⟩
          case measure => simp [intOf]; omega
        · have hne : ¬ (x : Int) = (y : Int) := by omega
          have hpq : p ≠ q := fun e => hxy (by rw [HXY.out.1, HXY.out.2, e])
          have HPQ : Hid (decide (p = q) = false) := decide_eq_false hpq
          clear hpq hxy
          go_wp2_with fail
          go_quiet (fail)
          go_wp2
          go_ret
          exact ⟨by rw [HPQ.out]; rfl, ⟨rfl, rfl, rfl, Nat.le_refl _, fun _ _ _ => rfl⟩⟩
      · obtain rfl : k = n := by omega
        have hpq : p = q := list_same (by rw [HN.out, HM.out]) (fun i hi => HE.out i (by rw [HN.out] at hi; exact hi))
        have HPQ : Hid (decide (p = q) = true) := decide_eq_true hpq
        clear hlt hpq
        go_wp2
        go_ret
        exact ⟨by rw [HPQ.out]; rfl, ⟨rfl, rfl, rfl, Nat.le_refl _, fun _ _ _ => rfl⟩⟩
  · have hne : ¬ (n : Int) = (m : Int) := by omega
    have hpq : p ≠ q := fun e => hnm (by rw [← HN.out, ← HM.out, e])
    have HPQ : Hid (decide (p = q) = false) := decide_eq_false hpq
    clear hpq hnm
    go_enter Tryz.func10, Tryz.ntmps10
    go_wp2
    go_ret
    exact ⟨by rw [HPQ.out]; rfl, gb_refl _ _⟩
end Go.Proofs.YtmnlidfalhjghaaGreatDoor

/- make of bytes: a new block of zeros. -/
namespace Go.Proofs.YtmnlidfalhjghaaGreatDoor
open Go.RowKit Ow

theorem info_u8z : ∃ i, Tryz.prog.info? 5 = some i ∧ i.zero = some (.int .u8 0) ∧ i.size = 1 ∧ i.bytes = 1 := by
  have h : (Tryz.prog.info? 5).map (fun i => (i.zero, i.size, i.bytes)) = some (some (.int .u8 0), 1, 1) := by kernel_rfl
  cases hi : Tryz.prog.info? 5 with
  | none => rw [hi] at h; cases h
  | some i =>
    rw [hi] at h
    simp only [Option.map_some, Option.some.injEq, Prod.mk.injEq] at h
    exact ⟨i, rfl, h.1, h.2.1, h.2.2⟩
theorem made_bytes (n : Nat) : madeCells (Value.int .u8 0).cells n = (List.replicate n (u8N 0)).toArray := by
  unfold madeCells u8N
  apply Array.ext
  · simp
  · intro i h1 h2
    simp [Value.cells, Nat.mod_one]
theorem make_bytes (n c : Nat) (w : World) (h : n ≤ c) (hc : c ≤ 140737488355328) : ∃ w', (Instr.makeSlice 22 (.int .i64 n) (.int .i64 c)).run Tryz.prog w = .ok (.slice (some ⟨w.heap.size, 0, none⟩) n c) w' ∧
    w.grownBy w' none ∧ w'.heap.size = w.heap.size + 1 ∧ Blk w' w.heap.size 5 (List.replicate c (u8N 0)) := by
  obtain ⟨i, hi, hz, hs, hb⟩ := info_u8z
  have h2 := run_make (P := Tryz.prog) w 22 5 i (.int .u8 0) Tryz.underlying22 hi hz .i64 .i64 n c (by omega) (by omega) (by rw [hb]; omega) (by omega)
  rw [hs, Nat.mul_one, Int.toNat_natCast, Int.toNat_natCast, made_bytes] at h2
  exact ⟨_, h2, gb_alloc (gb_refl _ _) _, by simp, Blk.new w _ _⟩
end Go.Proofs.YtmnlidfalhjghaaGreatDoor

/- scalar's laws: small numbers' bytes, the order's; sums and products. -/
namespace Go.Proofs.YtmnlidfalhjghaaGreatDoor
open Go.RowKit Ow

theorem OutB.bytes {l : List Nat} {w w' : World} {e : Ending} (h : OutB l w e w') (hl : l.length = 32) (hb : ∀ i, l.getD i 0 < 256) :
    ∃ g, e = .returned (.slice (some ⟨g, 0, none⟩) 32 32) ∧ w.grownBy w' none ∧ BytesAt w' w'.heap.size (some ⟨g, 0, none⟩) 32 l := by
  obtain ⟨g, rfl, hg, _, hk⟩ := h
  refine ⟨g, by rw [hl], hg, blk_bytes (tl := []) (by rw [List.append_nil]; exact hk) hl (Nat.le_refl _) (by omega) hb hk.lt (Nat.le_refl _)⟩
/-- 32 bytes of a small number -/
def oneB (n : Nat) : List Nat := n :: List.replicate 31 0
theorem oneB_length (n : Nat) : (oneB n).length = 32 := by simp [oneB]
theorem rep0 (k i : Nat) : (List.replicate k (0 : Nat)).getD i 0 = 0 := by
  rw [List.getD_eq_getElem?_getD, List.getElem?_replicate]; split <;> rfl
theorem oneB_lt (n : Nat) (hn : n < 256) : ∀ i, (oneB n).getD i 0 < 256 := by
  intro i
  cases i with
  | zero => exact hn
  | succ i => show (List.replicate 31 0).getD i 0 < 256; rw [rep0]; decide
theorem leN_zero (f : Nat → Nat) (k : Nat) (h : ∀ i, 1 ≤ i → i < k → f i = 0) (hk : 1 ≤ k) : Sc.leN f k = f 0 := by
  induction k with
  | zero => omega
  | succ k ih =>
    rcases Nat.eq_zero_or_pos k with h0 | h0
    · subst h0; simp [Sc.leN]
    · rw [Sc.leN, h k h0 (by omega), ih (fun i h1 h2 => h i h1 (by omega)) h0]; simp
theorem num_oneB (n : Nat) : num (oneB n) = n := by
  unfold num
  rw [oneB_length, leN_zero _ 32 (fun i h1 h2 => by
    obtain ⟨j, rfl⟩ : ∃ j, i = j + 1 := ⟨i - 1, by omega⟩
    exact rep0 31 j) (by decide)]
  rfl
set_option maxHeartbeats 400000 in
theorem sone_any (n : Nat) (w : World) : Calls Tryz.prog 22 #[.int .u8 (n : Int)] w (OutB (oneB n) w) := by
  obtain ⟨w1, hmk, hg, hs, hb⟩ := make_bytes 32 32 w (by omega) (by omega)
  have hmk' : (Instr.makeSlice 22 (.int .i64 32) (.int .i64 32)).run Tryz.prog w = .ok (.slice (some ⟨w.heap.size, 0, none⟩) 32 32) w1 := hmk
  have c0 := hb.cell (i := 0) rfl
  have f0 := hb.free 0
  have hset := hb.set 0 (u8N n)
  have HB : Hid (Blk (w1.setCell ⟨w.heap.size, 0, none⟩ (.int .u8 (n : Int))) w.heap.size 5 ((oneB n).map u8N)) := hset
  have HG := Lib.hid hg
  unfold u8N at c0
  clear hmk hb hset hg hs
  go_enter Tryz.func22, Tryz.ntmps22
  go_wp2
  go_ret
  exact ⟨w.heap.size, by rw [oneB_length]; rfl, gb_set_new HG.out (Nat.le_refl _) _, Nat.le_refl _, HB.out⟩

/-- the order's bytes, the lowest one turned -/
def ordB (n : Nat) : List Nat := [n, 0xd3, 0xf5, 0x5c, 0x1a, 0x63, 0x12, 0x58, 0xd6, 0x9c, 0xf7, 0xa2, 0xde, 0xf9, 0xde, 0x14, 0, 0, 0, 0, 0, 0, 0, 0, 0, 0, 0, 0, 0, 0, 0, 0x10]
theorem ordB_lt (n : Nat) (hn : n < 256) : ∀ i, (ordB n).getD i 0 < 256 := by
  intro i
  rcases Nat.lt_or_ge i 32 with h | h
  · have hall : ∀ x ∈ (ordB n), x < 256 := by
      intro x hx
      simp only [ordB, List.mem_cons, List.not_mem_nil, or_false] at hx
      omega
    rw [getD_at (ordB n) i h]
    exact hall _ (List.getElem_mem _)
  · rw [List.getD_eq_getElem?_getD, List.getElem?_eq_none h]; decide
theorem num_ordB (n : Nat) : num (ordB n) + 237 = Sc.L + n := by
  unfold num
  show Sc.leN (fun i => (ordB n).getD i 0) 32 + 237 = _
  have e : Sc.leN (fun i => (ordB n).getD i 0) 32 + 237 = n + 7237005577332262213973186563042994240857116359379907606001950938285454250989 := by
    simp only [Sc.leN, ordB, List.getD_cons_succ, List.getD_cons_zero]
    omega
  rw [e, Nat.add_comm]; rfl
def ord16 : List Value := [.int .u8 237, .int .u8 211, .int .u8 245, .int .u8 92, .int .u8 26, .int .u8 99, .int .u8 18, .int .u8 88, .int .u8 214, .int .u8 156, .int .u8 247, .int .u8 162, .int .u8 222, .int .u8 249, .int .u8 222, .int .u8 20]
theorem size_u8 : (Tryz.prog.info? 5).map (·.size) = some 1 := by kernel_rfl
theorem copy_ord (w : World) (G S : Nat) (hG : Blk w G 5 (List.replicate 32 (u8N 0))) (hS : Blk w S 5 ord16) :
    ∃ w', (Builtin.copy_ #[22, 22] 3 #[.slice (some ⟨G, 0, none⟩) 32 32, .slice (some ⟨S, 0, none⟩) 16 16]).run Tryz.prog w = .ok (.int .i64 16) w' ∧ w.grownBy w' (some G) ∧ Blk w' G 5 (ord16 ++ List.replicate 16 (u8N 0)) := by
  have h := run_copy_row (P := Tryz.prog) w 22 22 3 5 G 0 32 32 ⟨S, 0, none⟩ 16 16 (List.replicate 32 (u8N 0)).toArray 5 ord16 Tryz.underlying22 size_u8 hG rfl
    (fun j v hv => by
      have hadd : (⟨S, 0, none⟩ : Addr).add j = ⟨S, j, none⟩ := by unfold Addr.add; split <;> simp_all
      rw [hadd]; exact hS.cell hv) (by simp [ord16]) (by intro v hv; simp only [ord16, List.mem_cons, List.not_mem_nil, or_false] at hv; rcases hv with rfl | rfl | rfl | rfl | rfl | rfl | rfl | rfl | rfl | rfl | rfl | rfl | rfl | rfl | rfl | rfl <;> rfl)
  exact ⟨_, h, gb_setRow' (gb_refl _ _) _, hG.row _⟩
set_option maxRecDepth 100000 in
set_option maxHeartbeats 1000000 in
theorem l_any (m : Int) (n : Nat) (w : World) (hm : m + 237 = n) (hn : n < 256) : Calls Tryz.prog 21 #[.int .i64 m] w (OutB (ordB n) w) := by
  obtain ⟨w1, hmk, hg, hs, hb⟩ := make_bytes 32 32 w (by omega) (by omega)
  have hmk' : (Instr.makeSlice 22 (.int .i64 32) (.int .i64 32)).run Tryz.prog w = .ok (.slice (some ⟨w.heap.size, 0, none⟩) 32 32) w1 := hmk
  have hS := blk_at w1 (B := w.heap.size + 1) ord16 5 hs
  have hb2 := hb.alloc (.cells ord16.toArray 5)
  have hg2 := gb_alloc hg (.cells ord16.toArray 5)
  obtain ⟨w3, hcp, hg3, hb3⟩ := copy_ord _ w.heap.size (w.heap.size + 1) hb2 hS
  have hcp' : (Builtin.copy_ #[22, 22] 3 #[.slice (some ⟨w.heap.size, 0, none⟩) 32 32, .slice (some ⟨w.heap.size + 1, 0, none⟩) 16 16]).run Tryz.prog (w1.alloc (.cells #[.int .u8 237, .int .u8 211, .int .u8 245, .int .u8 92, .int .u8 26, .int .u8 99, .int .u8 18, .int .u8 88, .int .u8 214, .int .u8 156, .int .u8 247, .int .u8 162, .int .u8 222, .int .u8 249, .int .u8 222, .int .u8 20] 5)) = .ok (.int .i64 16) w3 := hcp
  have hg4 := gb_then hg2 hg3 (Nat.le_refl _)
  have c31 := hb3.cell (i := 31) rfl
  have f31 := hb3.free 31
  have c0 := hb3.cell (i := 0) rfl
  have f0 := hb3.free 0
  have hset := (hb3.set 31 (u8N 16)).set 0 (u8N n)
  have HB : Hid (Blk ((w3.setCell ⟨w.heap.size, 31, none⟩ (.int .u8 16)).setCell ⟨w.heap.size, 0, none⟩ (.int .u8 (237 + m))) w.heap.size 5 ((ordB n).map u8N)) := by
    have e : 237 + m = (n : Int) := by omega
    rw [e]; exact hset
  have HG := Lib.hid hg4
  unfold u8N at c31
  have m1 : -237 ≤ m := by omega
  have m2 : m ≤ 18 := by omega
  clear hmk hb hg hb2 hS hg2 hcp hg3 hb3 hg4 hset hm
  go_enter Tryz.func21, Tryz.ntmps21
  go_wp2
  go_ret
  exact ⟨w.heap.size, by rw [show (ordB n).length = 32 from rfl]; rfl, gb_set_new (gb_set_new HG.out (Nat.le_refl _) _) (Nat.le_refl _) _, Nat.le_refl _, HB.out⟩
end Go.Proofs.YtmnlidfalhjghaaGreatDoor

/- scalar's document: the order's bytes; numbers of 33 bytes compared, doubled, less one another. -/
namespace Go.Proofs.YtmnlidfalhjghaaGreatDoor
open Go.RowKit Ow
namespace Sr
theorem rorder_any (w : World) : Calls Tryz.prog 31 #[] w (OutB (ordB 237) w) := by
  have hb := Blk.new w ((ordB 237).map u8N) 5
  have HB : Hid (Blk (w.alloc (.cells #[.int .u8 237, .int .u8 211, .int .u8 245, .int .u8 92, .int .u8 26, .int .u8 99, .int .u8 18, .int .u8 88, .int .u8 214, .int .u8 156, .int .u8 247, .int .u8 162, .int .u8 222, .int .u8 249, .int .u8 222, .int .u8 20, .int .u8 0, .int .u8 0, .int .u8 0, .int .u8 0, .int .u8 0, .int .u8 0, .int .u8 0, .int .u8 0, .int .u8 0, .int .u8 0, .int .u8 0, .int .u8 0, .int .u8 0, .int .u8 0, .int .u8 0, .int .u8 16] 5)) w.heap.size 5 ((ordB 237).map u8N)) := hb
  clear hb
  go_enter Tryz.func31, Tryz.ntmps31
  go_wp2
  go_ret
  exact ⟨w.heap.size, by rw [show (ordB 237).length = 32 from rfl]; rfl, gb_alloc (gb_refl w none) _, Nat.le_refl _, HB.out⟩
/-- the cell of byte i -/
theorem byte_cell {w : World} {B cap : Nat} {a : Option Addr} {l : List Nat} (h : BytesAt w B a cap l) (h0 : 0 < l.length) : ∃ pb po, a = some ⟨pb, po, none⟩ ∧ pb < B ∧ ∀ i, i < l.length → w.cell? ⟨pb, po + i, none⟩ = some (.int .u8 ((l.getD i 0 : Nat) : Int)) := by
  rcases h.cells with h1 | h1
  · omega
  · exact h1
set_option maxRecDepth 100000 in
set_option maxHeartbeats 1000000 in
theorem rless_any (ca cb Ba Bb : Nat) (a b : Option Addr) (x y : List Nat) (w : World) (hx : x.length = 33) (hy : y.length = 33) (hA : BytesAt w Ba a ca x) (hB : BytesAt w Bb b cb y) :
    Calls Tryz.prog 30 #[.slice a 33 ca, .slice b 33 cb] w fun e w' => e = .returned (.bool (decide (num x < num y))) ∧ w.grownBy w' none := by
  obtain ⟨pa, oa, rfl, hpa, hca⟩ := byte_cell hA (by omega)
  obtain ⟨pb, ob, rfl, hpb, hcb⟩ := byte_cell hB (by omega)
  have HX := Lib.hid (And.intro (And.intro hx hy) (And.intro (And.intro hA.byte hB.byte) (And.intro hca hcb))); clear hx hy hA hB hca hcb hpa hpb
  go_enter Tryz.func30, Tryz.ntmps30
  go_wp2_with fail
  go_loopw [5] (fun i wr => ∃ (k : Nat) (z : Int), k ≤ 33 ∧ z + 1 = k ∧ i = .int .i64 z ∧ w.grownBy wr none ∧ (∀ j, j < 33 → wr.cell? ⟨pa, oa + j, none⟩ = some (.int .u8 ((x.getD j 0 : Nat) : Int))) ∧ (∀ j, j < 33 → wr.cell? ⟨pb, ob + j, none⟩ = some (.int .u8 ((y.getD j 0 : Nat) : Int))) ∧ ∀ j, k ≤ j → j < 33 → x.getD j 0 = y.getD j 0) (fun i _ => (intOf i + 1).toNat)
  case atStart => exact ⟨33, 32, by omega, by omega, rfl, gb_refl _ _, fun j hj => HX.out.2.2.1 j (by rw [HX.out.1.1]; exact hj), fun j hj => HX.out.2.2.2 j (by rw [HX.out.1.2]; exact hj), fun j h1 h2 => by omega⟩
  case round =>
    obtain ⟨k, z, hk, hz, rfl, hg, hca, hcb, he⟩ := hrel
    rcases Nat.eq_zero_or_pos k with h0 | h0
    · subst h0
      obtain rfl : z = -1 := by omega
      have hr := less_none x y 33 HX.out.1.1 HX.out.1.2 (fun j hj => he j (Nat.zero_le _) hj)
      have HI := Lib.hid (And.intro hg hr); clear hg hr hca hcb he hz
      go_wp2
      go_ret
      refine ⟨?_, HI.out.1⟩
      rw [HI.out.2]; rfl
    · obtain ⟨d, rfl⟩ : ∃ d, k = d + 1 := ⟨k - 1, by omega⟩
      obtain rfl : z = (d : Int) := by omega
      have c1 := hca d (by omega)
      have c2 := hcb d (by omega)
      by_cases hne : x.getD d 0 = y.getD d 0
      · rw [hne] at c1
        have HI := Lib.hid (And.intro hg (And.intro hca (And.intro hcb he))); clear hg hca hcb he
        have HE := Lib.hid hne; clear hne
        generalize hyd : y.getD d 0 = yd at *
        have HY := Lib.hid hyd; clear hyd
        have h33 : (d : Int) < 33 := by omega
        go_wp2_with fail
        go_region
        go_wp2
        go_roundw
        case rel => exact ⟨d, (d : Int) - 1, by omega, by omega, rfl, gb_drew HI.out.1, HI.out.2.1, HI.out.2.2.1, fun j h1 h2 => by
          rcases Nat.eq_or_lt_of_le h1 with h3 | h3
          · subst h3; exact HE.out.trans HY.out.symm
          · exact HI.out.2.2.2 j h3 h2⟩
        case measure => simp [intOf]
      · have hr := less_at x y 33 d HX.out.1.1 HX.out.1.2 HX.out.2.1.1 HX.out.2.1.2 (by omega) (fun j h1 h2 => he j h1 h2) hne
        have HI := Lib.hid (And.intro hg hr); clear hg hr hca hcb he
        have hne2 : ¬ ((x.getD d 0 : Nat) : Int) = ((y.getD d 0 : Nat) : Int) := by omega
        have hd : decide (((x.getD d 0 : Nat) : Int) < ((y.getD d 0 : Nat) : Int)) = decide (x.getD d 0 < y.getD d 0) := by rw [Bool.eq_iff_iff, decide_eq_true_iff, decide_eq_true_iff]; omega
        clear hne
        generalize x.getD d 0 = xd at *
        generalize y.getD d 0 = yd at *
        have HD := Lib.hid hd; clear hd
        have h33 : (d : Int) < 33 := by omega
        go_wp2_with fail
        go_region
        go_wp2_with fail
        go_region
        go_wp2
        go_ret
        refine ⟨?_, gb_drew (gb_drew HI.out.1)⟩
        rw [HI.out.2, ← HD.out]; rfl
/-- the first bytes of a row of n, zeros behind -/
def fillB (f : List Nat) (n : Nat) : List Value := f.map u8N ++ List.replicate (n - f.length) (u8N 0)
theorem fillB_nil (n : Nat) : fillB [] n = List.replicate n (u8N 0) := by simp [fillB]
theorem fillB_cell (f : List Nat) (n k : Nat) (hk : f.length = k) (h : k < n) : (fillB f n)[k]? = some (.int .u8 0) := by
  unfold fillB
  rw [List.getElem?_append_right (by simp; omega), List.length_map, hk, Nat.sub_self, List.getElem?_replicate, if_pos (by omega)]; rfl
theorem fillB_set (f : List Nat) (n k x : Nat) (hk : f.length = k) (h : k < n) : (fillB f n).set k (u8N x) = fillB (f ++ [x]) n := by
  unfold fillB
  rw [List.set_append_right _ _ (by simp; omega), List.length_map, hk, Nat.sub_self, List.map_append, List.append_assoc, List.length_append, show n - k = (n - (k + 1)) + 1 by omega, List.replicate_succ]
  rw [hk]
  rfl
theorem fillB_full (f : List Nat) (n : Nat) (hk : f.length = n) : fillB f n = f.map u8N := by unfold fillB; rw [hk, Nat.sub_self]; simp
theorem dbl_or' : ∀ v : Fin 256, ∀ c : Fin 2, bits .or .u8 ((v.val : Int) * 2 % 256) ((c.val : Nat) : Int) = ((2 * v.val % 256 + c.val : Nat) : Int) := by decide +kernel
theorem dbl_or (v c : Nat) (hv : v < 256) (hc : c ≤ 1) : bits .or .u8 ((v : Int) * 2 % 256) (c : Int) = ((2 * v % 256 + c : Nat) : Int) := dbl_or' ⟨v, hv⟩ ⟨c, by omega⟩
set_option maxRecDepth 100000 in
set_option maxHeartbeats 1000000 in
theorem rdouble_any (ca Ba bit : Nat) (a : Option Addr) (x : List Nat) (w : World) (hbit : bit ≤ 1) (hx : x.length = 33) (hA : BytesAt w Ba a ca x) :
    Calls Tryz.prog 42 #[.slice a 33 ca, .int .u8 (bit : Int)] w (OutB (bytesN (2 * num x + bit) 33) w) := by
  have hlim := hA.lim
  obtain ⟨pa, oa, rfl, hpa, hca⟩ := byte_cell hA (by omega)
  obtain ⟨w1, hmk, hg1, hs1, hb1⟩ := make_bytes 33 33 w (by omega) (by omega)
  have hmk' : (Instr.makeSlice 22 (.int .i64 33) (.int .i64 33)).run Tryz.prog w = .ok (.slice (some ⟨w.heap.size, 0, none⟩) 33 33) w1 := hmk
  rw [← fillB_nil 33] at hb1
  obtain ⟨D, hD⟩ : ∃ D, D = 2 * num x + bit := ⟨_, rfl⟩
  have HX := Lib.hid (And.intro hx (And.intro hA.byte (And.intro (fun j hj => hca j (by rw [hx]; exact hj) : ∀ j, j < 33 → w.cell? ⟨pa, oa + j, none⟩ = some (.int .u8 ((x.getD j 0 : Nat) : Int))) (And.intro hg1 (And.intro hb1 hD))))); clear hA hca hmk hg1 hb1 hs1
  have hpn : pa < w.heap.size := by omega
  have hne : pa ≠ w.heap.size := by omega
  clear hpa hlim
  rw [← hD]
  clear hD hx
  go_enter Tryz.func42, Tryz.ntmps42
  go_wp2_with fail
  go_loopw [6, 7] (fun c i wr => ∃ k : Nat, k ≤ 33 ∧ c = .int .u8 ((cry x bit k : Nat) : Int) ∧ i = .int .i64 k ∧ w.grownBy wr none ∧ Blk wr w.heap.size 5 (fillB (bytesN D k) 33)) (fun _ i _ => 33 - (intOf i).toNat)
  case atStart => exact ⟨0, by omega, rfl, rfl, HX.out.2.2.2.1, HX.out.2.2.2.2.1⟩
  case round =>
    obtain ⟨k, hk, rfl, rfl, hg, hb⟩ := hrel
    by_cases hlt : k < 33
    · have i1 : (k : Int) < 33 := by omega
      have hl := bytesN_length D k
      have c0 := hb.cell (fillB_cell _ 33 k hl hlt)
      have f0 := hb.free k
      have hv := HX.out.2.1 k
      have hc1 := cry_le x bit HX.out.2.1 hbit k
      have ho := dbl_or (x.getD k 0) (cry x bit k) hv hc1
      rw [← dbl_byt x bit HX.out.2.1 hbit k (by rw [HX.out.1]; exact hlt), ← HX.out.2.2.2.2.2] at ho
      have hset := hb.set k (u8N (Sc.byt D k))
      rw [fillB_set _ 33 k _ hl hlt, ← bytesN_succ] at hset
      have hgs := gb_set_new hg (p := ⟨w.heap.size, k, none⟩) (Nat.le_refl _) (u8N (Sc.byt D k))
      have ca := (gb_cell hg (p := ⟨pa, oa + k, none⟩) hpn (by simp)).trans (HX.out.2.2.1 k hlt)
      have cb := (gb_cell hgs (p := ⟨pa, oa + k, none⟩) hpn (by simp)).trans (HX.out.2.2.1 k hlt)
      have hcn : ((cry x bit (k + 1) : Nat) : Int) = ((x.getD k 0 : Nat) : Int) / 128 := by show ((x.getD k 0 / 128 : Nat) : Int) = _; omega
      have HI := Lib.hid (And.intro hset (And.intro hgs hcn)); clear hset hgs hcn hg hb hl hv hc1
      unfold u8N at cb HI
      generalize x.getD k 0 = xk at *
      generalize cry x bit k = ck at *
      go_wp2
      go_roundw
      case rel => exact ⟨k + 1, by omega, by rw [HI.out.2.2], by go_num, HI.out.2.1, HI.out.1⟩
      case measure => simp [intOf]; omega
    · obtain rfl : k = 33 := by omega
      rw [fillB_full _ 33 (bytesN_length D 33)] at hb
      have HI := Lib.hid (And.intro hg hb); clear hg hb
      go_wp2
      go_ret
      exact ⟨w.heap.size, by rw [bytesN_length]; rfl, HI.out.1, Nat.le_refl _, HI.out.2⟩
end Sr
end Go.Proofs.YtmnlidfalhjghaaGreatDoor

/- Parts of slices of bytes; rows of one's own as bytes. -/
namespace Go.Proofs.YtmnlidfalhjghaaGreatDoor
open Go.RowKit Ow

theorem getD_drop (l : List Nat) (k i : Nat) : (l.drop k).getD i 0 = l.getD (k + i) 0 := by
  rw [List.getD_eq_getElem?_getD, List.getElem?_drop, List.getD_eq_getElem?_getD]
theorem getD_take_lt (l : List Nat) (k : Nat) (h : ∀ i, l.getD i 0 < 256) (i : Nat) : (l.take k).getD i 0 < 256 := by
  rw [List.getD_eq_getElem?_getD, List.getElem?_take]
  split
  · rw [← List.getD_eq_getElem?_getD]; exact h i
  · decide
theorem getD_take (l : List Nat) (k i : Nat) (h : i < k) : (l.take k).getD i 0 = l.getD i 0 := by
  rw [List.getD_eq_getElem?_getD, List.getElem?_take, if_pos h, List.getD_eq_getElem?_getD]
theorem bytes_drop {w : World} {B cap k : Nat} {a a' : Option Addr} {l : List Nat} (h : BytesAt w B a cap l) (ha : k < cap → ∀ pb po, a = some ⟨pb, po, none⟩ → a' = some ⟨pb, po + k, none⟩) : BytesAt w B a' (cap - k) (l.drop k) := by
  have hf := h.fits
  have ht := h.top
  refine ⟨h.lim, by rw [List.length_drop]; omega, by omega, fun i => by rw [getD_drop]; exact h.byte _, ?_⟩
  by_cases h0 : l.length ≤ k
  · exact Or.inl (by rw [List.length_drop]; omega)
  · obtain ⟨pb, po, e, hlt, hc⟩ := h.cells.resolve_left (by omega)
    refine Or.inr ⟨pb, po + k, ha (by omega) pb po e, hlt, fun i hi => ?_⟩
    rw [List.length_drop] at hi
    rw [getD_drop, Nat.add_assoc]
    exact hc _ (by omega)
theorem bytes_take {w : World} {B cap k : Nat} {a a' : Option Addr} {l : List Nat} (h : BytesAt w B a cap l) (ha : ∀ pb po, a = some ⟨pb, po, none⟩ → a' = some ⟨pb, po, none⟩) : BytesAt w B a' cap (l.take k) := by
  have hl : (l.take k).length ≤ l.length := by rw [List.length_take]; omega
  refine ⟨h.lim, Nat.le_trans hl h.fits, h.top, getD_take_lt _ _ h.byte, ?_⟩
  rcases h.cells with h0 | ⟨pb, po, e, hlt, hc⟩
  · exact Or.inl (by omega)
  · refine Or.inr ⟨pb, po, ha pb po e, hlt, fun i hi => ?_⟩
    rw [List.length_take] at hi
    rw [getD_take _ _ _ (by omega)]
    exact hc _ (by omega)
set_option maxRecDepth 100000 in
/-- x[:k] of a slice of bytes -/
theorem slice_to (a : Option Addr) (n cap k : Nat) (h : k ≤ cap) :
    ∃ a', (∀ w, (Instr.slice 22 (.slice a n cap) none (some (.int .i64 (k : Int))) none).run Tryz.prog w = .ok (.slice a' k cap) w) ∧ (∀ pb po, a = some ⟨pb, po, none⟩ → a' = some ⟨pb, po, none⟩) := by
  obtain ⟨j, hj, hs⟩ : ∃ j, Tryz.prog.info? (Tryz.prog.elem 22) = some j ∧ j.size = 1 := by
    have h1 : (Tryz.prog.info? (Tryz.prog.elem 22)).map (·.size) = some 1 := by kernel_rfl
    cases hq : Tryz.prog.info? (Tryz.prog.elem 22) with
    | none => rw [hq] at h1; cases h1
    | some j => rw [hq] at h1; exact ⟨j, rfl, by simpa using h1⟩
  refine ⟨if cap = 0 then a else a.map (·.add 0), fun w => ?_, fun pb po e => ?_⟩
  · rw [run_slice_h w 22 a n cap Tryz.underlying22 .i64 _ (by omega) (by omega), Int.toNat_natCast]
    simp [sizeOf, typeInfo, hj, hs, sliced]
  · rw [e]
    split
    · rfl
    · simp [Addr.add]
/-- a row of one's own, whole -/
theorem own_of_blk {w : World} {g n base e : Nat} {xs : List Value} (h : Blk w g e xs) (hn : xs.length = n) (hb : base ≤ g) (hm : n ≤ 140737488355328) : w.ownsRow base e 1 (.slice (some ⟨g, 0, none⟩) n n) n xs :=
  ⟨by omega, Or.inr ⟨g, n, xs.toArray, rfl, hb, h, Nat.le_refl _, by unfold maxLen; omega, by simp [hn], by simp [← hn]⟩⟩
theorem own_bytesAt {w : World} {base n : Nat} {v : Value} {l : List Nat} (h : w.ownsRow base 5 1 v n (l.map u8N)) (hl : l.length = n) (hn : 0 < n) (hb : ∀ i, l.getD i 0 < 256) :
    ∃ g c, v = .slice (some ⟨g, 0, none⟩) n c ∧ base ≤ g ∧ n ≤ c ∧ BytesAt w w.heap.size (some ⟨g, 0, none⟩) c l := by
  subst hl
  obtain ⟨g, c, rfl, hbg, hnc, hcm, hlt⟩ := own_some h hn
  refine ⟨g, c, rfl, hbg, hnc, Nat.le_refl _, hnc, by unfold maxLen at hcm; omega, hb, Or.inr ⟨g, 0, rfl, hlt, fun i hi => ?_⟩⟩
  rw [Nat.zero_add]
  exact own_cell h (u8_getD hi)
theorem _root_.Go.Proofs.YtmnlidfalhjghaaGreatDoor.Ow.BytesAt.full {w : World} {B cap : Nat} {a : Option Addr} {l : List Nat} (h : BytesAt w B a cap l) : BytesAt w w.heap.size a cap l := h.up h.lim (Nat.le_refl _)
theorem _root_.Go.Proofs.YtmnlidfalhjghaaGreatDoor.Ow.BytesAt.apart {w w' : World} {B cap rb : Nat} {a : Option Addr} {l : List Nat} (h : BytesAt w B a cap l) (hg : w.grownBy w' (some rb)) (hne : l.length = 0 ∨ ∀ pb po, a = some ⟨pb, po, none⟩ → pb ≠ rb) : BytesAt w' B a cap l := by
  refine ⟨Nat.le_trans h.lim hg.size, h.fits, h.top, h.byte, ?_⟩
  rcases hne with h0 | hne
  · exact Or.inl h0
  rcases h.cells with h0 | ⟨pb, po, ha, hlt, hc⟩
  · exact Or.inl h0
  · exact Or.inr ⟨pb, po, ha, hlt, fun i hi => by rw [gb_cell hg (p := ⟨pb, po + i, none⟩) (Nat.lt_of_lt_of_le hlt h.lim) (fun e => hne pb po ha (by simpa using e))]; exact hc i hi⟩
end Go.Proofs.YtmnlidfalhjghaaGreatDoor

/- An append whose run is known, behind a guard. -/
namespace Go.Proofs.YtmnlidfalhjghaaGreatDoor
open Go.RowKit
namespace Ow
theorem wpList_append_runG {P : Program} {w : World} {ops : Array Oper} {rest : List Oper} {o : Oper} {a : Act} {Q : Exit → Act → World → Prop} (hw : Region.wanted o (yielded ops a.tmps) = true) (s x : Operand) (t : TypeId)
    (ho : o.op = .call { callee := .builtin .append, args := #[s, x], argTypes := #[t, t] }) (ht : o.type = t) (v y : Value) (hs : a.eval s = v) (hx : a.eval x = y) (v' : Value) (w' : World)
    (hr : (Builtin.append_ #[t, t] t #[v, y]).run P w = .ok v' w') (h : wpList P ops Q rest (a.put o.dst v') w') : wpList P ops Q (o :: rest) a w := by
  refine wpList_step fun K hK => ?_
  rw [if_pos hw]
  rw [← ht] at hr
  unfold Oper.wp
  simp [execOp, ho, resolve, invoke, builtin, hs, hx, ← ht, hr, Result.andThen]
  exact hK _ _ h
end Ow
end Go.Proofs.YtmnlidfalhjghaaGreatDoor

/- scalar's document: a number of 33 bytes less another one; the rest, bit by bit; Reduce, Right. -/
namespace Go.Proofs.YtmnlidfalhjghaaGreatDoor
open Go.RowKit Ow
namespace Sr
set_option maxRecDepth 100000 in
set_option maxHeartbeats 1000000 in
theorem rminus_any (ca cb Ba Bb : Nat) (a b : Option Addr) (x y : List Nat) (w : World) (hx : x.length = 33) (hy : y.length = 33) (hle : num y ≤ num x) (hA : BytesAt w Ba a ca x) (hB : BytesAt w Bb b cb y) :
    Calls Tryz.prog 43 #[.slice a 33 ca, .slice b 33 cb] w (OutB (bytesN (num x - num y) 33) w) := by
  have hlA := hA.lim
  have hlB := hB.lim
  obtain ⟨pa, oa, rfl, hpa, hca⟩ := byte_cell hA (by omega)
  obtain ⟨pb, ob, rfl, hpb, hcb⟩ := byte_cell hB (by omega)
  obtain ⟨w1, hmk, hg1, hs1, hb1⟩ := make_bytes 33 33 w (by omega) (by omega)
  have hmk' : (Instr.makeSlice 22 (.int .i64 33) (.int .i64 33)).run Tryz.prog w = .ok (.slice (some ⟨w.heap.size, 0, none⟩) 33 33) w1 := hmk
  rw [← fillB_nil 33] at hb1
  have hsb : ∀ k, k < 33 → Sc.byt (num x - num y) k + y.getD k 0 + brw x y k = x.getD k 0 + 256 * brw x y (k + 1) := fun k hk => sub_byt x y 33 k hx hy hA.byte hB.byte hle hk
  obtain ⟨D, hD⟩ : ∃ D, D = num x - num y := ⟨_, rfl⟩
  rw [← hD] at hsb ⊢
  have HX := Lib.hid (And.intro (fun j hj => hca j (by rw [hx]; exact hj) : ∀ j, j < 33 → w.cell? ⟨pa, oa + j, none⟩ = some (.int .u8 ((x.getD j 0 : Nat) : Int))) (And.intro (fun j hj => hcb j (by rw [hy]; exact hj) : ∀ j, j < 33 → w.cell? ⟨pb, ob + j, none⟩ = some (.int .u8 ((y.getD j 0 : Nat) : Int))) (And.intro hA.byte (And.intro hB.byte (And.intro hg1 (And.intro hb1 hsb))))))
  have hpn : pa < w.heap.size := by omega
  have hpm : pb < w.heap.size := by omega
  have hne : pa ≠ w.heap.size := by omega
  have hnf : pb ≠ w.heap.size := by omega
  clear hpa hlA hpb hlB hA hB hca hcb hmk hg1 hb1 hs1 hsb hD hx hy hle
  go_enter Tryz.func43, Tryz.ntmps43
  go_wp2_with fail
  go_loopw [6, 7] (fun c i wr => ∃ k : Nat, k ≤ 33 ∧ c = .int .i64 ((brw x y k : Nat) : Int) ∧ i = .int .i64 k ∧ w.grownBy wr none ∧ Blk wr w.heap.size 5 (fillB (bytesN D k) 33)) (fun _ i _ => 33 - (intOf i).toNat)
  case atStart => exact ⟨0, by omega, rfl, rfl, HX.out.2.2.2.2.1, HX.out.2.2.2.2.2.1⟩
  case round =>
    obtain ⟨k, hk, rfl, rfl, hg, hb⟩ := hrel
    by_cases hlt : k < 33
    · have i1 : (k : Int) < 33 := by omega
      have hl := bytesN_length D k
      have hgd := gb_drew hg
      have hbd := hb.grown (gb_drew (gb_refl wr none)) (by simp)
      have c0 := hbd.cell (fillB_cell _ 33 k hl hlt)
      have f0 := hbd.free k
      have hset := hbd.set k (u8N (Sc.byt D k))
      rw [fillB_set _ 33 k _ hl hlt, ← bytesN_succ] at hset
      have hgs := gb_set_new hgd (p := ⟨w.heap.size, k, none⟩) (Nat.le_refl _) (u8N (Sc.byt D k))
      have ca := (gb_cell hg (p := ⟨pa, oa + k, none⟩) hpn (by simp)).trans (HX.out.1 k hlt)
      have cb := (gb_cell hg (p := ⟨pb, ob + k, none⟩) hpm (by simp)).trans (HX.out.2.1 k hlt)
      have v1 := HX.out.2.2.1 k
      have v2 := HX.out.2.2.2.1 k
      have v3 := brw_le x y k
      have v4 := brw_le x y (k + 1)
      have v5 := HX.out.2.2.2.2.2.2 k hlt
      have v6 : Sc.byt D k < 256 := Sc.byt_lt _ _
      have HI := Lib.hid (And.intro hset hgs); clear hset hgs hg hb hl hgd hbd
      unfold u8N at HI
      have hbr : brw x y (k + 1) = if x.getD k 0 < y.getD k 0 + brw x y k then 1 else 0 := rfl
      by_cases hx0 : x.getD k 0 < y.getD k 0 + brw x y k
      · rw [if_pos hx0] at hbr
        have HBR := Lib.hid hbr
        have e1 : ((Sc.byt D k : Nat) : Int) = ((x.getD k 0 : Nat) : Int) - ((y.getD k 0 : Nat) : Int) - ((brw x y k : Nat) : Int) + 256 := by omega
        have n1 : ((x.getD k 0 : Nat) : Int) - ((y.getD k 0 : Nat) : Int) - ((brw x y k : Nat) : Int) < 0 := by omega
        rw [e1] at HI
        generalize x.getD k 0 = xk at *
        generalize y.getD k 0 = yk at *
        generalize brw x y k = bk at *
        clear hbr v5 v6 e1
        go_wp2_with fail
        go_region
        go_wp2
        go_roundw
        case rel => exact ⟨k + 1, by omega, by rw [HBR.out]; rfl, by go_num, HI.out.2, HI.out.1⟩
        case measure => simp [intOf]; omega
      · rw [if_neg hx0] at hbr
        have HBR := Lib.hid hbr
        have e1 : ((Sc.byt D k : Nat) : Int) = ((x.getD k 0 : Nat) : Int) - ((y.getD k 0 : Nat) : Int) - ((brw x y k : Nat) : Int) := by omega
        have n1 : ¬ ((x.getD k 0 : Nat) : Int) - ((y.getD k 0 : Nat) : Int) - ((brw x y k : Nat) : Int) < 0 := by omega
        rw [e1] at HI
        generalize x.getD k 0 = xk at *
        generalize y.getD k 0 = yk at *
        generalize brw x y k = bk at *
        clear hbr v5 v6 e1
        go_wp2_with fail
        go_region
        go_wp2
        go_roundw
        case rel => exact ⟨k + 1, by omega, by rw [HBR.out]; rfl, by go_num, HI.out.2, HI.out.1⟩
        case measure => simp [intOf]; omega
    · obtain rfl : k = 33 := by omega
      rw [fillB_full _ 33 (bytesN_length D 33)] at hb
      have HI := Lib.hid (And.intro hg hb); clear hg hb
      go_wp2
      go_ret
      exact ⟨w.heap.size, by rw [bytesN_length]; rfl, HI.out.1, Nat.le_refl _, HI.out.2⟩
theorem OutB.own {l : List Nat} {w w' : World} {e : Ending} (h : OutB l w e w') (n : Nat) (hn : l.length = n) (hm : n ≤ 140737488355328) : ∃ g, e = .returned (.slice (some ⟨g, 0, none⟩) n n) ∧ w.grownBy w' none ∧ w.heap.size ≤ g ∧ w'.ownsRow w.heap.size 5 1 (.slice (some ⟨g, 0, none⟩) n n) n (l.map u8N) := by
  obtain ⟨g, rfl, hg, hs, hb⟩ := h
  exact ⟨g, by rw [hn], hg, hs, own_of_blk hb (by rw [List.length_map]; exact hn) hs hm⟩
theorem OutB.at {l : List Nat} {w w' : World} {e : Ending} (h : OutB l w e w') (n : Nat) (hn : l.length = n) (hm : n < 1000000) (hb : ∀ i, l.getD i 0 < 256) : ∃ g, e = .returned (.slice (some ⟨g, 0, none⟩) n n) ∧ w.grownBy w' none ∧ w.heap.size ≤ g ∧ BytesAt w' w'.heap.size (some ⟨g, 0, none⟩) n l := by
  obtain ⟨g, rfl, hg, hs, hk⟩ := h
  exact ⟨g, by rw [hn], hg, hs, blk_bytes (tl := []) (by rw [List.append_nil]; exact hk) hn (Nat.le_refl _) (by omega) hb hk.lt (Nat.le_refl _)⟩
def l33 : List Nat := ordB 237 ++ [0]
theorem l33_length : l33.length = 33 := rfl
theorem l33_lt : ∀ i, l33.getD i 0 < 256 := fun i => by
  unfold l33
  rw [List.getD_eq_getElem?_getD, List.getElem?_append]
  split
  · rw [← List.getD_eq_getElem?_getD]; exact ordB_lt 237 (by decide) i
  · rcases Nat.eq_zero_or_pos (i - (ordB 237).length) with h | h
    · rw [h]; decide
    · rw [List.getElem?_eq_none (by simp; omega)]; decide
theorem num_l33 : num l33 = Sc.L := by
  have h := num_ordB 237
  have e : num l33 = num (ordB 237) := by
    rw [num_is l33 33 rfl, num_is (ordB 237) 32 rfl]
    rw [Sc.leN, Sc.leN_congr (fun i => l33.getD i 0) (fun i => (ordB 237).getD i 0) 32 (fun i hi => by
      show l33.getD i 0 = (ordB 237).getD i 0
      unfold l33
      rw [List.getD_eq_getElem?_getD, List.getElem?_append_left (by show i < 32; omega), List.getD_eq_getElem?_getD])]
    show Sc.leN _ 32 + 0 * _ = _
    omega
  omega
theorem and_one' : ∀ j : Fin 256, bits .and .u8 (j.val : Int) 1 = ((j.val % 2 : Nat) : Int) := by decide +kernel
theorem and_one (x j : Nat) (hx : x < 256) : bits .and .u8 ((x : Int) / 2 ^ j) 1 = ((x / 2 ^ j % 2 : Nat) : Int) := by
  have hl : x / 2 ^ j < 256 := Nat.lt_of_le_of_lt (Nat.div_le_self _ _) hx
  have e : (x : Int) / 2 ^ j = ((x / 2 ^ j : Nat) : Int) := by rw [Int.natCast_ediv, Int.natCast_pow]; rfl
  rw [e]
  exact and_one' ⟨x / 2 ^ j, hl⟩
/-- what Rest answers: 32 bytes of a new block of 33 -/
def OutR (n : Nat) (w : World) (e : Ending) (w' : World) : Prop := ∃ g, e = .returned (.slice (some ⟨g, 0, none⟩) 32 33) ∧ w.grownBy w' none ∧ w.heap.size ≤ g ∧ Blk w' g 5 ((scB n ++ [0]).map u8N)
set_option maxRecDepth 100000 in
set_option maxHeartbeats 2000000 in
theorem rest_any (n ca Ba : Nat) (a : Option Addr) (x : List Nat) (w : World) (hn : n ≤ 100000) (hx : x.length = n) (hA : BytesAt w Ba a ca x) :
    Calls Tryz.prog 28 #[.slice a n ca] w (OutR (num x) w) := by
  have hN0 : num x / 2 ^ (8 * n) = 0 := by rw [← hx]; exact Nat.div_eq_of_lt (num_lt x hA.byte)
  have HN := Lib.hid hN0; clear hN0
  have HX := Lib.hid (And.intro hx (And.intro hA (fun i hi => bit_byte x hA.byte i hi : ∀ i, i < 8 * x.length → _))); clear hA
  go_enter Tryz.func28, Tryz.ntmps28
  go_wp2_with fail
  refine (rorder_any w).mono ?_
  intro e w1 h
  obtain ⟨g, rfl, hg1, hs1, ho1⟩ := OutB.own h 32 rfl (by decide); clear h
  obtain ⟨v2, w2, hap, ho2, hg2⟩ := append1_u8 w1 w.heap.size 32 _ (u8N 0) _ ho1 rfl (by omega) hg1.size
  have hg02 := gb_own hg1 ho1 (Nat.le_refl _) hg2
  rw [show (ordB 237).map u8N ++ [u8N 0] = l33.map u8N by unfold l33; rw [List.map_append]; rfl] at ho2
  obtain ⟨gl, cl, rfl, _, _, hBl⟩ := own_bytesAt ho2 l33_length (by decide) l33_lt
  obtain ⟨w3, hmk, hg3, hs3, hb3⟩ := make_bytes 33 33 w2 (by omega) (by omega)
  have hmk' : (Instr.makeSlice 22 (.int .i64 33) (.int .i64 33)).run Tryz.prog w2 = .ok (.slice (some ⟨w2.heap.size, 0, none⟩) 33 33) w3 := hmk
  have hg03 := gb_trans hg02 hg3
  have hB3 := hBl.stay hg3
  have hzb : (List.replicate 33 (u8N 0)) = (bytesN (num x / 2 ^ (8 * n) % Sc.L) 33).map u8N := by rw [HN.out]; rfl
  rw [hzb] at hb3
  have hap' : (Builtin.append_ #[22, 22] 22 #[.slice (some ⟨g, 0, none⟩) 32 32, .slice (some ⟨w1.heap.size, 0, none⟩) 1 1]).run Tryz.prog (w1.alloc (.cells #[.int .u8 0] 5)) = .ok (.slice (some ⟨gl, 0, none⟩) 33 cl) w2 := hap
  clear hap
  have H3 := Lib.hid (And.intro hg03 (And.intro hB3 (And.intro hb3 (Nat.le_trans hg02.size (Nat.le_refl _))))); clear hg03 hB3 hb3 hg3 hg2 hBl ho2 ho1 hg1 hs1 hs3 hg02 hzb hmk
  go_wp2_with (at_builtin; refine wpList_append_run rfl (.tmp 6) (.tmp 7) 22 rfl rfl _ _ rfl rfl _ _ hap' ?_)
  clear hap' hmk'
  obtain ⟨BL, hBL⟩ : ∃ BL, BL = w3.heap.size := ⟨_, rfl⟩
  go_loopw [4, 5] (fun v i wr => ∃ (m gv : Nat) (z : Int), m ≤ 8 * n ∧ z + 1 = m ∧ i = .int .i64 z ∧ v = .slice (some ⟨gv, 0, none⟩) 33 33 ∧ w.grownBy wr none ∧ w.heap.size ≤ gv ∧ Blk wr gv 5 ((bytesN (num x / 2 ^ m % Sc.L) 33).map u8N) ∧ BytesAt wr BL (some ⟨gl, 0, none⟩) cl l33) (fun _ i _ => (intOf i + 1).toNat)
  case atStart => exact ⟨8 * n, w2.heap.size, 8 * (n : Int) - 1, by omega, by omega, rfl, rfl, H3.out.1, H3.out.2.2.2, H3.out.2.2.1, by rw [hBL]; exact H3.out.2.1.full⟩
  case round =>
    clear H3
    obtain ⟨m, gv, z, hm, hz, rfl, rfl, hg, hgv, hb, hbl⟩ := hrel
    have hbv : BytesAt wr wr.heap.size (some ⟨gv, 0, none⟩) 33 (bytesN (num x / 2 ^ m % Sc.L) 33) := blk_bytes (tl := []) (by rw [List.append_nil]; exact hb) (bytesN_length _ _) (Nat.le_refl _) (by omega) (bytesN_lt _ _) hb.lt (Nat.le_refl _)
    rcases Nat.eq_zero_or_pos m with h0 | h0
    · subst h0
      obtain rfl : z = -1 := by omega
      obtain ⟨a', hsl, ha'⟩ := slice_to (some ⟨gv, 0, none⟩) 33 33 32 (by omega)
      obtain rfl := ha' gv 0 rfl
      have e1 : bytesN (num x / 2 ^ 0 % Sc.L) 33 = scB (num x) ++ [0] := by
        rw [Nat.pow_zero, Nat.div_one, bytes_prefix _ (Sc.lt256 _ (Sc.mod_lt _))]; rfl
      rw [e1] at hb
      have HI := Lib.hid (And.intro hg (And.intro hgv hb)); clear hg hgv hb hbv hbl e1 ha' hz hm
      go_wp2
      go_ret
      exact ⟨gv, rfl, HI.out⟩
    · obtain ⟨d, rfl⟩ : ∃ d, m = d + 1 := ⟨m - 1, by omega⟩
      obtain rfl : z = (d : Int) := by omega
      have hd8 : d < 8 * n := by omega
      obtain ⟨pa, oa, rfl, hpa, hca⟩ := byte_cell HX.out.2.1 (by rw [HX.out.1]; omega)
      have hla := HX.out.2.1.lim
      have ca := (gb_cell hg (p := ⟨pa, oa + d / 8, none⟩) (show pa < _ by omega) (by simp)).trans (hca (d / 8) (by rw [HX.out.1]; omega))
      have hbit := HX.out.2.2 d (by rw [HX.out.1]; exact hd8)
      have hand := and_one (x.getD (d / 8) 0) (d % 8) (HX.out.2.1.byte _)
      rw [hbit] at hand
      have hrb := rest_bit (num x) d
      have hml : num x / 2 ^ (d + 1) % Sc.L < Sc.L := Sc.mod_lt _
      have hdb := fun (w' : World) (hg' : wr.grownBy w' none) => rdouble_any 33 w'.heap.size (num x / 2 ^ d % 2) (some ⟨gv, 0, none⟩) (bytesN (num x / 2 ^ (d + 1) % Sc.L) 33) w' (by omega) (bytesN_length _ _) (hbv.stay hg').full
      have hnm : num (bytesN (num x / 2 ^ (d + 1) % Sc.L) 33) = num x / 2 ^ (d + 1) % Sc.L := num_of _ _ (lt33 _ (by omega))
      simp only [hnm] at hdb
      obtain ⟨bt, hbt⟩ : ∃ bt, bt = num x / 2 ^ d % 2 := ⟨_, rfl⟩
      rw [← hbt] at hand hdb hrb
      have hbt1 : bt ≤ 1 := by omega
      have hd1 : (d : Int) < 800000 := by omega
      have HI := Lib.hid (And.intro hg (And.intro hgv (And.intro hbv (And.intro hbl (And.intro hdb (And.intro hrb hml)))))); clear hg hgv hbv hbl hdb hrb hml hb hca hnm hbit hbt
      generalize x.getD (d / 8) 0 = xd at *
      go_wp2_with fail
      refine (HI.out.2.2.2.2.1 wr (gb_refl _ _)).mono ?_
      intro e w5 h
      obtain ⟨g5, rfl, hg5, hs5, hk5⟩ := h
      rw [bytesN_length]
      obtain ⟨T, hT⟩ : ∃ T, T = 2 * (num x / 2 ^ (d + 1) % Sc.L) + bt := ⟨_, rfl⟩
      have hT2 : T < 2 * Sc.L := by have := HI.out.2.2.2.2.2.2; omega
      have hrT : num x / 2 ^ d % Sc.L = T % Sc.L := by rw [hT]; exact HI.out.2.2.2.2.2.1
      rw [← hT] at hk5
      have hnT : num (bytesN T 33) = T := num_of _ _ (lt33 _ (by omega))
      have hb5 : BytesAt w5 w5.heap.size (some ⟨g5, 0, none⟩) 33 (bytesN T 33) := blk_bytes (tl := []) (by rw [List.append_nil]; exact hk5) (bytesN_length _ _) (Nat.le_refl _) (by omega) (bytesN_lt _ _) hk5.lt (Nat.le_refl _)
      have hbl5 := HI.out.2.2.2.1.stay hg5
      have hls := rless_any 33 cl w5.heap.size BL (some ⟨g5, 0, none⟩) (some ⟨gl, 0, none⟩) (bytesN T 33) l33 w5 (bytesN_length _ _) l33_length hb5 hbl5
      rw [hnT, num_l33] at hls
      have hmn := fun (h : Sc.L ≤ T) (w' : World) (hg' : w5.grownBy w' none) => rminus_any 33 cl w'.heap.size BL (some ⟨g5, 0, none⟩) (some ⟨gl, 0, none⟩) (bytesN T 33) l33 w' (bytesN_length _ _) l33_length (by rw [hnT, num_l33]; exact h) (hb5.stay hg').full (hbl5.stay hg')
      rw [hnT, num_l33] at hmn
      have hg05 := gb_trans HI.out.1 hg5
      have H5 := Lib.hid (And.intro hg05 (And.intro (Nat.le_trans HI.out.1.size hs5) (And.intro hk5 (And.intro hbl5 (And.intro hmn hrT)))))
      have HT2 := Lib.hid hT2
      have HLS := Lib.hid hls
      clear hg5 hs5 hk5 hT hT2 hrT hnT hb5 hbl5 hls hmn hg05 HI
      by_cases hlt : T < Sc.L
      · rw [decide_eq_true hlt] at HLS
        have HLT := Lib.hid hlt; clear hlt
        go_wp2_with fail
        refine HLS.out.mono ?_
        rintro e w6 ⟨rfl, hg6⟩
        have HG6 := Lib.hid hg6; clear hg6 HLS
        go_wp2
        go_roundw
        case rel => exact ⟨d, g5, (d : Int) - 1, by omega, by omega, rfl, rfl, gb_trans H5.out.1 HG6.out, H5.out.2.1, by rw [H5.out.2.2.2.2.2, rest_less _ HLT.out]; exact H5.out.2.2.1.grown HG6.out (by simp), H5.out.2.2.2.1.stay HG6.out⟩
        case measure => simp [intOf]
      · rw [decide_eq_false hlt] at HLS
        have HLT := Lib.hid hlt; clear hlt
        go_wp2_with fail
        refine HLS.out.mono ?_
        rintro e w6 ⟨rfl, hg6⟩
        have HM := Lib.hid (H5.out.2.2.2.2.1 (Nat.le_of_not_lt HLT.out) w6 hg6)
        have HG6 := Lib.hid hg6; clear hg6 HLS
        go_wp2_with fail
        refine HM.out.mono ?_
        intro e w7 h
        obtain ⟨g7, rfl, hg7, hs7, hk7⟩ := h
        rw [bytesN_length]
        have H7 := Lib.hid (And.intro (gb_trans HG6.out hg7) (And.intro (Nat.le_trans (gb_trans H5.out.1 HG6.out).size hs7) hk7)); clear hg7 hs7 hk7 HM
        go_wp2
        go_roundw
        case rel => exact ⟨d, g7, (d : Int) - 1, by omega, by omega, rfl, rfl, gb_trans H5.out.1 H7.out.1, H7.out.2.1, by rw [H5.out.2.2.2.2.2, rest_sub _ HLT.out HT2.out]; exact H7.out.2.2, H5.out.2.2.2.1.stay H7.out.1⟩
        case measure => simp [intOf]
theorem OutR.at {n : Nat} {w w' : World} {e : Ending} (h : OutR n w e w') : ∃ g, e = .returned (.slice (some ⟨g, 0, none⟩) 32 33) ∧ w.grownBy w' none ∧ w.heap.size ≤ g ∧ BytesAt w' w'.heap.size (some ⟨g, 0, none⟩) 33 (scB n) := by
  obtain ⟨g, rfl, hg, hs, hb⟩ := h
  exact ⟨g, rfl, hg, hs, blk_bytes (tl := [u8N 0]) (by rw [List.map_append] at hb; exact hb) (scB_length n) (by decide) (by omega) (scB_lt n) hb.lt (Nat.le_refl _)⟩
set_option maxHeartbeats 1000000 in
theorem rreduce_any (n ca Ba : Nat) (a : Option Addr) (x : List Nat) (w : World) (hn : n ≤ 64) (hx : x.length = n) (hA : BytesAt w Ba a ca x) :
    Calls Tryz.prog 11 #[.slice a n ca] w (OutR (num x) w) := by
  have HR := Lib.hid (fun w' (hg : w.grownBy w' none) => rest_any n ca Ba a x w' (by omega) hx (hA.stay hg)); clear hA hx
  have h64 : ¬ (n : Int) > 64 := by omega
  go_enter Tryz.func11, Tryz.ntmps11
  go_wp2_with fail
  refine (HR.out w (gb_refl _ _)).mono ?_
  intro e w1 h
  obtain ⟨g, rfl, h1⟩ := h
  have H := Lib.hid h1; clear h1
  go_wp2
  go_ret
  exact ⟨g, rfl, H.out⟩
set_option maxHeartbeats 1000000 in
theorem rreduce_none (n ca : Nat) (a : Option Addr) (w : World) (hn : 64 < n) :
    Calls Tryz.prog 11 #[.slice a n ca] w fun e w' => e = .returned (.slice none 0 0) ∧ w.grownBy w' none := by
  have h64 : (n : Int) > 64 := by omega
  go_enter Tryz.func11, Tryz.ntmps11
  go_wp2
  go_ret
  exact ⟨rfl, gb_refl _ _⟩
set_option maxHeartbeats 1000000 in
theorem rright_none (n ca : Nat) (a : Option Addr) (w : World) (hn : n ≠ 32) :
    Calls Tryz.prog 13 #[.slice a n ca] w fun e w' => e = .returned (.bool false) ∧ w.grownBy w' none := by
  have h64 : ¬ (n : Int) = 32 := by omega
  go_enter Tryz.func13, Tryz.ntmps13
  go_wp2
  go_ret
  exact ⟨rfl, gb_refl _ _⟩
theorem byte_end (x : List Nat) (hb : ∀ i, x.getD i 0 < 256) : ∀ i, (x ++ [0]).getD i 0 < 256 := fun i => by
  rw [List.getD_eq_getElem?_getD, List.getElem?_append]
  split
  · rw [← List.getD_eq_getElem?_getD]; exact hb i
  · rcases Nat.eq_zero_or_pos (i - x.length) with h | h
    · rw [h]; decide
    · rw [List.getElem?_eq_none (by simp; omega)]; decide
theorem num_end (x : List Nat) : num (x ++ [0]) = num x := by
  have h1 : Sc.leN (fun i => (x ++ [0]).getD i 0) x.length = Sc.leN (fun i => x.getD i 0) x.length := Sc.leN_congr _ _ x.length (fun i hi => by
    show (x ++ [0]).getD i 0 = x.getD i 0
    rw [List.getD_eq_getElem?_getD, List.getElem?_append_left hi, List.getD_eq_getElem?_getD])
  rw [num_is (x ++ [0]) (x.length + 1) (by simp), Sc.leN, h1]
  have e : (x ++ [0]).getD x.length 0 = 0 := by rw [List.getD_eq_getElem?_getD, List.getElem?_append_right (Nat.le_refl _), Nat.sub_self]; rfl
  show Sc.leN _ x.length + (x ++ [0]).getD x.length 0 * _ = _
  rw [e, Nat.zero_mul]; rfl
set_option maxRecDepth 100000 in
set_option maxHeartbeats 1000000 in
theorem rright_any (ca Ba : Nat) (a : Option Addr) (x : List Nat) (w : World) (hx : x.length = 32) (hA : BytesAt w Ba a ca x) :
    Calls Tryz.prog 13 #[.slice a 32 ca] w fun e w' => e = .returned (.bool (decide (num x < Sc.L))) ∧ w.grownBy w' none := by
  have ho0 : (w.alloc (.cells #[] 5)).ownsRow w.heap.size 5 1 (.slice (some ⟨w.heap.size, 0, none⟩) 0 0) 0 [] := World.ownsRow_lit w #[] 0 (Nat.le_refl _) (by unfold maxLen; omega) rfl
  obtain ⟨v1, w1, hap1, ho1, hgr1⟩ := append_bytes _ w.heap.size 0 Ba ca 32 _ [] a x ho0 hx (hA.stay (gb_alloc (gb_refl _ _) _)) (by omega) (by simp)
  have hg1 := gb_own (gb_alloc (gb_refl w none) _) ho0 (Nat.le_refl _) hgr1
  rw [Nat.zero_add, List.nil_append] at ho1
  obtain ⟨v2, w2, hap2, ho2, hgr2⟩ := append1_u8 w1 w.heap.size 32 v1 (u8N 0) _ ho1 rfl (by omega) hg1.size
  have hg2 := gb_own hg1 ho1 (Nat.le_refl _) hgr2
  rw [show x.map u8N ++ [u8N 0] = (x ++ [0]).map u8N by rw [List.map_append]; rfl] at ho2
  obtain ⟨gx, cx, rfl, _, _, hbx⟩ := own_bytesAt ho2 (by simp [hx]) (by decide) (byte_end x hA.byte)
  have hap2' : (Builtin.append_ #[22, 22] 22 #[v1, .slice (some ⟨w1.heap.size, 0, none⟩) 1 1]).run Tryz.prog (w1.alloc (.cells #[.int .u8 0] 5)) = .ok (.slice (some ⟨gx, 0, none⟩) 33 cx) w2 := hap2
  have H2 := Lib.hid (And.intro hg2 (And.intro hbx hx)); clear hg2 hbx ho1 ho2 hgr1 hgr2 hg1 ho0 hA hap2 hx
  go_enter Tryz.func13, Tryz.ntmps13
  go_wp2_with (first | (at_builtin; refine wpList_append_runG rfl (.tmp 7) (.tmp 8) 22 rfl rfl _ _ rfl rfl _ _ hap1 ?_) | (at_builtin; refine wpList_append_runG rfl (.tmp 9) (.tmp 10) 22 rfl rfl _ _ rfl rfl _ _ hap2' ?_))
  refine (rorder_any w2).mono ?_
  intro e w3 h
  obtain ⟨g, rfl, hg3, hs3, ho3⟩ := OutB.own h 32 rfl (by decide); clear h
  obtain ⟨v4, w4, hap4, ho4, hgr4⟩ := append1_u8 w3 w2.heap.size 32 _ (u8N 0) _ ho3 rfl (by omega) hg3.size
  have hg4 := gb_own hg3 ho3 (Nat.le_refl _) hgr4
  rw [show (ordB 237).map u8N ++ [u8N 0] = l33.map u8N by unfold l33; rw [List.map_append]; rfl] at ho4
  obtain ⟨gl, cl, rfl, _, _, hbl⟩ := own_bytesAt ho4 l33_length (by decide) l33_lt
  have hap4' : (Builtin.append_ #[22, 22] 22 #[.slice (some ⟨g, 0, none⟩) 32 32, .slice (some ⟨w3.heap.size, 0, none⟩) 1 1]).run Tryz.prog (w3.alloc (.cells #[.int .u8 0] 5)) = .ok (.slice (some ⟨gl, 0, none⟩) 33 cl) w4 := hap4
  have hls := rless_any cx cl _ _ (some ⟨gx, 0, none⟩) (some ⟨gl, 0, none⟩) (x ++ [0]) l33 w4 (by rw [List.length_append, H2.out.2.2]; rfl) l33_length (H2.out.2.1.stay hg4) hbl
  rw [num_l33, num_end] at hls
  have HL := Lib.hid (And.intro hls (gb_trans H2.out.1 hg4)); clear hls hg4 hbl hap4 ho4 hgr4 ho3 hg3 hs3
  go_wp2_with (at_builtin; refine wpList_append_runG rfl (.tmp 12) (.tmp 13) 22 rfl rfl _ _ rfl rfl _ _ hap4' ?_)
  refine HL.out.1.mono ?_
  rintro e w5 ⟨rfl, hg5⟩
  have HG := Lib.hid (gb_trans HL.out.2 hg5); clear hg5
  go_wp2
  go_ret
  exact ⟨rfl, HG.out⟩
end Sr
end Go.Proofs.YtmnlidfalhjghaaGreatDoor

/- scalar's document: MulAdd: products byte by byte, carried. -/
namespace Go.Proofs.YtmnlidfalhjghaaGreatDoor
open Go.RowKit Ow
namespace Sr
def iN (n : Nat) : Value := .int .i64 (n : Int)
theorem info_int0 : ∃ i, Tryz.prog.info? 3 = some i ∧ i.zero = some (.int .i64 0) ∧ i.size = 1 ∧ i.bytes = 8 := by
  have h : (Tryz.prog.info? 3).map (fun i => (i.zero, i.size, i.bytes)) = some (some (.int .i64 0), 1, 8) := by kernel_rfl
  cases hi : Tryz.prog.info? 3 with
  | none => rw [hi] at h; cases h
  | some i =>
    rw [hi] at h
    simp only [Option.map_some, Option.some.injEq, Prod.mk.injEq] at h
    exact ⟨i, rfl, h.1, h.2.1, h.2.2⟩
theorem made_ints (n : Nat) : madeCells (Value.int .i64 0).cells n = ((List.replicate n 0).map iN).toArray := by
  unfold madeCells iN
  apply Array.ext
  · simp
  · intro i h1 h2
    simp [Value.cells, Nat.mod_one]
theorem make_ints (n : Nat) (w : World) (hc : n ≤ 1000000) : ∃ w', (Instr.makeSlice 83 (.int .i64 n) (.int .i64 n)).run Tryz.prog w = .ok (.slice (some ⟨w.heap.size, 0, none⟩) n n) w' ∧
    w.grownBy w' none ∧ w'.heap.size = w.heap.size + 1 ∧ Blk w' w.heap.size 3 ((List.replicate n 0).map iN) := by
  obtain ⟨i, hi, hz, hs, hb⟩ := info_int0
  have h2 := run_make (P := Tryz.prog) w 83 3 i (.int .i64 0) Tryz.underlying83 hi hz .i64 .i64 n n (by omega) (by omega) (by rw [hb]; omega) (by omega)
  rw [hs, Nat.mul_one, Int.toNat_natCast, made_ints] at h2
  exact ⟨_, h2, gb_alloc (gb_refl _ _) _, by simp, Blk.new w _ _⟩
theorem iN_cell (t : List Nat) (i : Nat) (h : i < t.length) : (t.map iN)[i]? = some (.int .i64 ((t.getD i 0 : Nat) : Int)) := by
  rw [List.getElem?_map, List.getElem?_eq_getElem h, List.getD_eq_getElem?_getD, List.getElem?_eq_getElem h]; rfl
theorem iN_set (t : List Nat) (i x : Nat) : (t.map iN).set i (.int .i64 (x : Int)) = (t.set i x).map iN := by rw [List.map_set]; rfl
/-- parts that are added to: how great, of which value -/
structure Pt (t : List Nat) (v b : Nat) : Prop where
  len : t.length = 66
  is : val t = v
  le : ∀ j, t.getD j 0 ≤ 65536 * b
theorem Pt.add {t : List Nat} {v b : Nat} (h : Pt t v b) (i d : Nat) (hi : i < 66) (hd : d ≤ 65536) (v' : Nat) (hv : v + d * 2 ^ (8 * i) = v') : Pt (t.set i (t.getD i 0 + d)) v' (b + 1) := by
  refine ⟨by rw [List.length_set]; exact h.len, by rw [val_add t i d (by rw [h.len]; exact hi), h.is, hv], fun j => ?_⟩
  have hl := h.le i
  have hj := h.le j
  rw [getD_set t i _ j (by rw [h.len]; exact hi)]
  split <;> omega
theorem part_add (a b c d e : Nat) : a + b * c * 2 ^ d + b * e * 2 ^ (d + 8 * 0) = a + b * (c + e) * 2 ^ d := by
  rw [Nat.mul_zero, Nat.add_zero, Nat.add_assoc, ← Nat.add_mul, ← Nat.mul_add]
theorem mul_step (A x Y y i j : Nat) : A + x * 2 ^ (8 * i) * Y + x * y * 2 ^ (8 * (i + j)) = A + x * 2 ^ (8 * i) * (Y + y * 2 ^ (8 * j)) := by
  have e : x * y * 2 ^ (8 * (i + j)) = x * 2 ^ (8 * i) * (y * 2 ^ (8 * j)) := by
    rw [Nat.mul_add 8, Nat.pow_add]
    generalize 2 ^ (8 * i) = P
    generalize 2 ^ (8 * j) = Q
    rw [Nat.mul_assoc, Nat.mul_assoc, ← Nat.mul_assoc y P Q, Nat.mul_comm y P, Nat.mul_assoc P y Q]
  rw [e, Nat.add_assoc, ← Nat.mul_add]
theorem mul_row (A x Y i : Nat) (Z : Nat) : A * Y + Z + x * 2 ^ (8 * i) * Y = (A + x * 2 ^ (8 * i)) * Y + Z := by
  rw [Nat.add_mul]; omega
theorem lt_mono (n j k : Nat) (h : n < 2 ^ j) (hk : j ≤ k) : n < 2 ^ k := Nat.lt_of_lt_of_le h (Nat.pow_le_pow_right (by decide) hk)
theorem mul_end (x y z : Nat) (hx : x < 2 ^ 256) (hy : y < 2 ^ 256) (hz : z < 2 ^ 256) (k : Nat) (hk : 512 ≤ k) : x * y + z < 2 ^ k := by
  have h := Sc.part_lt x y z 4 hy hz
  rw [Sc.part_end x y z hx] at h
  have h2 := lt_mono (x * y + z) (64 * (4 + 4)) k h hk
  exact h2
set_option maxRecDepth 100000 in
set_option maxHeartbeats 4000000 in
theorem rmulAdd_any (ca cb cc Ba Bb Bc : Nat) (a b c : Option Addr) (x y z : List Nat) (w : World) (hx : x.length = 32) (hy : y.length = 32) (hz : z.length = 32) (hA : BytesAt w Ba a ca x) (hB : BytesAt w Bb b cb y) (hC : BytesAt w Bc c cc z) :
    Calls Tryz.prog 20 #[.slice a 32 ca, .slice b 32 cb, .slice c 32 cc] w (OutR (num x * num y + num z) w) := by
  have hx2 := num_256 x hA.byte (by omega)
  have hy2 := num_256 y hB.byte (by omega)
  have hz2 := num_256 z hC.byte (by omega)
  have hend := mul_end (num x) (num y) (num z) hx2 hy2 hz2 (8 * 66) (by decide)
  rw [num_is x 32 hx, num_is y 32 hy, num_is z 32 hz] at hend ⊢
  have hlA := hA.lim
  have hlB := hB.lim
  have hlC := hC.lim
  obtain ⟨pa, oa, rfl, hpa, hca⟩ := byte_cell hA (by omega)
  obtain ⟨pb, ob, rfl, hpb, hcb⟩ := byte_cell hB (by omega)
  obtain ⟨pc, oc, rfl, hpc, hcc⟩ := byte_cell hC (by omega)
  obtain ⟨fx, hfx⟩ : ∃ f : Nat → Nat, f = fun i => x.getD i 0 := ⟨_, rfl⟩
  obtain ⟨fy, hfy⟩ : ∃ f : Nat → Nat, f = fun i => y.getD i 0 := ⟨_, rfl⟩
  obtain ⟨fz, hfz⟩ : ∃ f : Nat → Nat, f = fun i => z.getD i 0 := ⟨_, rfl⟩
  have kx : ∀ j, j < 32 → w.cell? ⟨pa, oa + j, none⟩ = some (.int .u8 ((fx j : Nat) : Int)) := fun j hj => by rw [hfx]; exact hca j (by rw [hx]; exact hj)
  have ky : ∀ j, j < 32 → w.cell? ⟨pb, ob + j, none⟩ = some (.int .u8 ((fy j : Nat) : Int)) := fun j hj => by rw [hfy]; exact hcb j (by rw [hy]; exact hj)
  have kz : ∀ j, j < 32 → w.cell? ⟨pc, oc + j, none⟩ = some (.int .u8 ((fz j : Nat) : Int)) := fun j hj => by rw [hfz]; exact hcc j (by rw [hz]; exact hj)
  have bx : ∀ j, fx j < 256 := fun j => by rw [hfx]; exact hA.byte j
  have by' : ∀ j, fy j < 256 := fun j => by rw [hfy]; exact hB.byte j
  have bz : ∀ j, fz j < 256 := fun j => by rw [hfz]; exact hC.byte j
  rw [← hfx, ← hfy, ← hfz] at hend ⊢
  obtain ⟨w1, hmk, hg1, hs1, hb1⟩ := make_ints 66 w (by decide)
  have hmk' : (Instr.makeSlice 83 (.int .i64 66) (.int .i64 66)).run Tryz.prog w = .ok (.slice (some ⟨w.heap.size, 0, none⟩) 66 66) w1 := hmk
  have hpt0 : Pt (List.replicate 66 0) 0 0 := ⟨by simp, val_zero 66, fun j => by rw [List.getD_eq_getElem?_getD, List.getElem?_replicate]; split <;> simp⟩
  have HX := Lib.hid (And.intro (And.intro kx (And.intro ky kz)) (And.intro (And.intro bx (And.intro by' bz)) (And.intro hend (And.intro hg1 (And.intro hb1 hpt0)))))
  have hpn : pa < w.heap.size := by omega
  have hpm : pb < w.heap.size := by omega
  have hpo : pc < w.heap.size := by omega
  clear hx2 hy2 hz2 hend hlA hlB hlC hca hcb hcc hpa hpb hpc kx ky kz bx by' bz hfx hfy hfz hA hB hC hx hy hz hmk hg1 hb1 hs1 hpt0
  go_enter Tryz.func20, Tryz.ntmps20
  go_wp2_with fail
  clear hmk'
  go_loopw [8, 9] (fun i j wr => ∃ (k : Nat) (t : List Nat), k ≤ 32 ∧ i = .int .i64 k ∧ w.grownBy wr none ∧ Blk wr w.heap.size 3 (t.map iN) ∧ Pt t (Sc.leN fx k * Sc.leN fy 32 + Sc.leN fz k) (33 * k)) (fun i _ _ => 32 - (intOf i).toNat)
  case atStart => exact ⟨0, _, by omega, rfl, HX.out.2.2.2.1, HX.out.2.2.2.2.1, by simpa [Sc.leN] using HX.out.2.2.2.2.2⟩
  case round =>
    obtain ⟨k, t, hk, rfl, hg, hb, hp⟩ := hrel
    by_cases hlt : k < 32
    · have i1 : (k : Int) < 32 := by omega
      have hgd := gb_drew hg
      have hbd := hb.grown (gb_drew (gb_refl wr none)) (by simp)
      have c0 := hb.cell (iN_cell t k (by rw [hp.len]; omega))
      have f0 := hbd.free k
      have cz := (gb_cell hg (p := ⟨pc, oc + k, none⟩) hpo (by simp)).trans (HX.out.1.2.2 k hlt)
      have vz := HX.out.2.1.2.2 k
      have vt := hp.le k
      have hset := hbd.set k (.int .i64 ((t.getD k 0 + fz k : Nat) : Int))
      rw [iN_set] at hset
      have hgs := gb_set_new hgd (p := ⟨w.heap.size, k, none⟩) (Nat.le_refl _) (.int .i64 ((t.getD k 0 + fz k : Nat) : Int))
      have hpt := hp.add k (fz k) (by omega) (by omega) (Sc.leN fx k * Sc.leN fy 32 + Sc.leN fz (k + 1)) (by show _ = Sc.leN fx k * Sc.leN fy 32 + (Sc.leN fz k + fz k * 2 ^ (8 * k)); omega)
      have es : ((t.getD k 0 + fz k : Nat) : Int) = ((t.getD k 0 : Nat) : Int) + ((fz k : Nat) : Int) := by omega
      rw [es] at hset hgs
      have HI := Lib.hid (And.intro hset (And.intro hgs hpt)); clear hset hgs hpt hg hb hp hgd hbd es
      generalize hT : t.set k (t.getD k 0 + fz k) = T at *
      clear hT
      generalize t.getD k 0 = tk at *
      generalize fz k = zk at *
      go_wp2_with fail
      go_region
      go_wp2_with fail
      obtain ⟨A, hA⟩ : ∃ A, A = Sc.leN fx k * Sc.leN fy 32 + Sc.leN fz (k + 1) := ⟨_, rfl⟩
      rw [← hA] at HI
      have HA := Lib.hid hA; clear hA
      go_loopw [9] (fun j wr => ∃ (i : Nat) (t : List Nat), i ≤ 32 ∧ j = .int .i64 i ∧ w.grownBy wr none ∧ Blk wr w.heap.size 3 (t.map iN) ∧ Pt t (A + fx k * 2 ^ (8 * k) * Sc.leN fy i) (33 * k + 1 + i)) (fun j _ => 32 - (intOf j).toNat)
      case atStart => exact ⟨0, T, by omega, rfl, HI.out.2.1, HI.out.1, by simpa [Sc.leN] using HI.out.2.2⟩
      case round =>
        clear HI
        obtain ⟨i, t, hi, rfl, hg, hb, hp⟩ := hrel
        by_cases hit : i < 32
        · have i2 : (i : Int) < 32 := by omega
          have hgd := gb_drew hg
          have hbd := hb.grown (gb_drew (gb_refl wr none)) (by simp)
          have c0 := hb.cell (iN_cell t (k + i) (by rw [hp.len]; omega))
          have f0 := hbd.free (k + i)
          have cx := (gb_cell hg (p := ⟨pa, oa + k, none⟩) hpn (by simp)).trans (HX.out.1.1 k hlt)
          have cy := (gb_cell hg (p := ⟨pb, ob + i, none⟩) hpm (by simp)).trans (HX.out.1.2.1 i hit)
          have vx := HX.out.2.1.1 k
          have vy := HX.out.2.1.2.1 i
          have vt := hp.le (k + i)
          have vm : fx k * fy i ≤ 65025 := Nat.mul_le_mul (show fx k ≤ 255 by omega) (show fy i ≤ 255 by omega)
          have hset := hbd.set (k + i) (.int .i64 ((t.getD (k + i) 0 + fx k * fy i : Nat) : Int))
          rw [iN_set] at hset
          have hgs := gb_set_new hgd (p := ⟨w.heap.size, k + i, none⟩) (Nat.le_refl _) (.int .i64 ((t.getD (k + i) 0 + fx k * fy i : Nat) : Int))
          have hpt := hp.add (k + i) (fx k * fy i) (by omega) (by omega) (A + fx k * 2 ^ (8 * k) * Sc.leN fy (i + 1)) (mul_step _ _ _ _ _ _)
          have es : ((t.getD (k + i) 0 + fx k * fy i : Nat) : Int) = ((t.getD (k + i) 0 : Nat) : Int) + ((fx k : Nat) : Int) * ((fy i : Nat) : Int) := by rw [Int.natCast_add, Int.natCast_mul]
          rw [es] at hset hgs
          have hmi : ((fx k : Nat) : Int) * ((fy i : Nat) : Int) = ((fx k * fy i : Nat) : Int) := by rw [Int.natCast_mul]
          have hm0 : 0 ≤ ((fx k : Nat) : Int) * ((fy i : Nat) : Int) := by rw [hmi]; omega
          have hm1 : ((fx k : Nat) : Int) * ((fy i : Nat) : Int) ≤ 65025 := by rw [hmi]; omega
          have HI := Lib.hid (And.intro hset (And.intro hgs hpt)); clear hset hgs hpt hg hb hp hgd hbd es vm hmi
          have ek : ((k : Int) + (i : Int)).toNat = k + i := by omega
          generalize hT : t.set (k + i) (t.getD (k + i) 0 + fx k * fy i) = T2 at *
          clear hT
          generalize t.getD (k + i) 0 = tk at *
          generalize hxk : fx k = xk at *
          have HXK := Lib.hid hxk; clear hxk
          generalize fy i = yi at *
          go_wp2_with fail
          go_region
          go_wp2
          go_roundw
          case rel => exact ⟨i + 1, T2, by omega, by go_num, HI.out.2.1, HI.out.1, HI.out.2.2⟩
          case measure => simp [intOf]; omega
        · obtain rfl : i = 32 := by omega
          have e1 : A + fx k * 2 ^ (8 * k) * Sc.leN fy 32 = Sc.leN fx (k + 1) * Sc.leN fy 32 + Sc.leN fz (k + 1) := by
            rw [HA.out]; exact mul_row _ _ _ _ _
          rw [e1, show 33 * k + 1 + 32 = 33 * (k + 1) by omega] at hp
          have HI := Lib.hid (And.intro hg (And.intro hb hp)); clear hg hb hp e1
          go_wp2
          go_roundw
          case rel => exact ⟨k + 1, t, by omega, by go_num, HI.out⟩
          case measure => simp [intOf]; omega
    · obtain rfl : k = 32 := by omega
      obtain ⟨w5, hmk, hg5, hs5, hb5⟩ := make_bytes 66 66 wr (by omega) (by omega)
      have hmk' : (Instr.makeSlice 22 (.int .i64 66) (.int .i64 66)).run Tryz.prog wr = .ok (.slice (some ⟨wr.heap.size, 0, none⟩) 66 66) w5 := hmk
      rw [← fillB_nil 66] at hb5
      have ht : val t < 2 ^ (8 * t.length) := by rw [hp.is, hp.len]; exact HX.out.2.2.1
      have hcn := carB_num t ht
      rw [hp.is, hp.len] at hcn
      have hlt0 := hb.lt
      have hsz : w.heap.size ≤ wr.heap.size := hg.size
      have hbt := hb.grown hg5 (by simp)
      have H5 := Lib.hid (And.intro (gb_trans hg hg5) (And.intro hb5 (And.intro hp.le (And.intro hp.len (And.intro hcn hbt))))); clear hg hg5 hb5 hs5 hmk ht hcn hp hb hbt
      obtain ⟨WO, hWO⟩ : ∃ WO : World, WO = wr := ⟨_, rfl⟩
      subst hWO
      go_wp2_with fail
      clear hmk'
      go_loopw [11, 12] (fun c i wr => ∃ k : Nat, k ≤ 66 ∧ c = .int .i64 ((car t k : Nat) : Int) ∧ i = .int .i64 k ∧ w.grownBy wr none ∧ Blk wr w.heap.size 3 (t.map iN) ∧ Blk wr WO.heap.size 5 (fillB (carB t k) 66)) (fun _ i _ => 66 - (intOf i).toNat)
      case atStart => exact ⟨0, by omega, rfl, rfl, H5.out.1, H5.out.2.2.2.2.2, H5.out.2.1⟩
      case round =>
        obtain ⟨k, hk6, rfl, rfl, hg, hb, hbo⟩ := hrel
        by_cases hkt : k < 66
        · have i6 : (k : Int) < 66 := by omega
          have c0 := hb.cell (iN_cell t k (by rw [H5.out.2.2.2.1]; exact hkt))
          have c1 := hbo.cell (fillB_cell _ 66 k (carB_length t k) hkt)
          have f1 := hbo.free k
          have vt := H5.out.2.2.1 k
          have vc := car_le t (65536 * (33 * 32)) H5.out.2.2.1 k
          have hset := hbo.set k (u8N ((car t k + t.getD k 0) % 256))
          rw [fillB_set _ 66 k _ (carB_length t k) hkt, ← carB_succ] at hset
          have hgs := gb_set_new hg (p := ⟨WO.heap.size, k, none⟩) hsz (u8N ((car t k + t.getD k 0) % 256))
          have hbs := hb.other (a := ⟨WO.heap.size, k, none⟩) (show WO.heap.size ≠ w.heap.size by omega) (u8N ((car t k + t.getD k 0) % 256))
          have es : (((car t k + t.getD k 0) % 256 : Nat) : Int) = (((car t k : Nat) : Int) + ((t.getD k 0 : Nat) : Int)) % 256 := by omega
          have hcs : ((car t (k + 1) : Nat) : Int) = (((car t k : Nat) : Int) + ((t.getD k 0 : Nat) : Int)) / 256 := by show (((car t k + t.getD k 0) / 256 : Nat) : Int) = _; omega
          unfold u8N at hset hgs hbs
          rw [es] at hset hgs hbs
          have HI := Lib.hid (And.intro hset (And.intro hgs (And.intro hbs hcs))); clear hset hgs hbs hcs es hg hb hbo
          generalize car t k = ck at *
          generalize t.getD k 0 = tk at *
          go_wp2
          go_roundw
          case rel => exact ⟨k + 1, by omega, by rw [HI.out.2.2.2], by go_num, HI.out.2.1, HI.out.2.2.1, HI.out.1⟩
          case measure => simp [intOf]; omega
        · obtain rfl : k = 66 := by omega
          rw [fillB_full _ 66 (carB_length t 66)] at hbo
          have hbz : BytesAt wr wr.heap.size (some ⟨WO.heap.size, 0, none⟩) 66 (carB t 66) := blk_bytes (tl := []) (by rw [List.append_nil]; exact hbo) (carB_length t 66) (Nat.le_refl _) (by omega) (carB_lt t 66) hbo.lt (Nat.le_refl _)
          have hR := rest_any 66 66 wr.heap.size (some ⟨WO.heap.size, 0, none⟩) (carB t 66) wr (by omega) (carB_length t 66) hbz
          rw [H5.out.2.2.2.2.1] at hR
          have HI := Lib.hid (And.intro hg hR); clear hg hR hb hbo hbz
          go_wp2_with fail
          refine HI.out.2.mono ?_
          intro e w9 h
          obtain ⟨g9, rfl, hg9, hs9, hb9⟩ := h
          have H9 := Lib.hid (And.intro (gb_trans HI.out.1 hg9) (And.intro (Nat.le_trans HI.out.1.size hs9) hb9)); clear hg9 hs9 hb9
          go_wp2
          go_ret
          exact ⟨g9, rfl, H9.out⟩
end Sr
end Go.Proofs.YtmnlidfalhjghaaGreatDoor

/- scalar's laws: the chapter's examples. -/
namespace Go.Proofs.YtmnlidfalhjghaaGreatDoor
open Go.RowKit Ow

theorem sameBytes_yes (B1 B2 c1 c2 : Nat) (a1 a2 : Option Addr) (p q : List Nat) (w : World) (h : p = q) (hn : p.length = 32) (h1 : BytesAt w B1 a1 c1 p) (h2 : BytesAt w B2 a2 c2 q) :
    Calls Tryz.prog 10 #[.slice a1 32 c1, .slice a2 32 c2] w fun e w' => e = .returned (.bool true) ∧ w.grownBy w' none := by
  subst h
  refine (sameBytes_any B1 B2 32 32 c1 c2 a1 a2 p p w hn hn h1 h2).mono ?_
  rintro e w' ⟨rfl, hg⟩
  exact ⟨by rw [decide_eq_true rfl], hg⟩
theorem byt_small (n i : Nat) (hn : n < 256) (hi : 1 ≤ i) : Sc.byt n i = 0 := by
  have h : (2 : Nat) ^ 8 ≤ 2 ^ (8 * i) := Nat.pow_le_pow_right (by decide) (by omega)
  unfold Sc.byt
  rw [Nat.div_eq_of_lt (by omega)]
theorem bytesN_small (n : Nat) (hn : n < 256) : bytesN n 32 = oneB n := by
  refine list_same (by rw [bytesN_length, oneB_length]) fun i hi => ?_
  rw [bytesN_length] at hi
  rw [bytesN_get n 32 i hi]
  cases i with
  | zero => show Sc.byt n 0 = n; unfold Sc.byt; rw [Nat.mul_zero, Nat.pow_zero, Nat.div_one, Nat.mod_eq_of_lt hn]
  | succ i => rw [byt_small n (i + 1) hn (by omega)]; exact (rep0 31 i).symm
theorem scB_small (n : Nat) (hn : n < 256) : scB n = oneB n := by
  have h : (256 : Nat) ≤ Sc.L := by decide
  unfold scB
  rw [Nat.mod_eq_of_lt (by omega), bytesN_small n hn]
theorem num_one1 : num [1] = 1 := by simp [num, Sc.leN]
theorem scB_one1 : scB (num [1]) = oneB 1 := by rw [num_one1]; exact scB_small 1 (by decide)
theorem num_ord : num (ordB 237) = Sc.L := by have := num_ordB 237; omega
theorem num_ord1 : num (ordB 236) + 1 = Sc.L := by have := num_ordB 236; omega
theorem scB_ord : scB (num (ordB 237)) = oneB 0 := by
  rw [num_ord, ← scB_small 0 (by decide)]
  unfold scB
  rw [Nat.mod_self, Nat.zero_mod]
theorem scB_ten : scB (num (oneB 2) * num (oneB 3) + num (oneB 4)) = oneB 10 := by
  rw [num_oneB, num_oneB, num_oneB]; exact scB_small 10 (by decide)
theorem right_no : decide (num (ordB 237) < Sc.L) = false := by rw [num_ord]; exact decide_eq_false (Nat.lt_irrefl _)
theorem right_yes : decide (num (ordB 236) < Sc.L) = true := by have := num_ord1; exact decide_eq_true (by omega)
theorem one_get (f : Nat → Nat) (k : Nat) (h : k < 256) : ((bitsTo f 256).map Value.bool)[k]? = some (.bool (bitAt f k)) := by
  unfold bitsTo; rw [List.getElem?_map, List.getElem?_map, List.getElem?_range h]; rfl
theorem OTab.stay {w w' : World} (h : OTab w) (hg : w.grownBy w' none) : OTab w' := h.kept hg (fun r e => by cases e)
set_option maxRecDepth 100000 in
set_option maxHeartbeats 4000000 in
theorem awake_any (w : World) (hT : OTab w) : Calls Tryz.prog 6 #[] w fun e w' => e = .returned (.bool true) ∧ w.grownBy w' none := by
  have HT := Lib.hid hT; clear hT
  go_enter Tryz.func6, Tryz.ntmps6
  go_wp2_with fail
  refine ((sone_any 1 w).mono fun e w' h => h.bytes (oneB_length 1) (oneB_lt 1 (by decide))).mono ?_
  rintro e w1 ⟨ga, rfl, hg, hb⟩
  have S0 := Lib.hid hg; clear hg
  have Ha := Lib.hid hb; clear hb
  go_wp2_with fail
  refine (bits_any 32 _ _ (oneB 1) w1 (oneB_length 1) Ha.out).mono ?_
  rintro e w2 ⟨gt, rfl, hg, _, hb⟩
  rw [bitsTo_length]
  have S1 := Lib.hid hg; clear hg
  have HB := Lib.hid hb; clear hb
  go_wp2_with fail
  have hn : BytesAt (w2.alloc (.cells #[.int .u8 1] 5)) (w2.heap.size + 1) (some ⟨w2.heap.size, 0, none⟩) 1 [1] := blk_bytes (l := [1]) (n := 1) (tl := []) (Blk.new w2 [.int .u8 1] 5) rfl (by decide) (by decide) (fun i => by cases i <;> simp) (by omega) (by simp)
  have hgn := gb_alloc (gb_refl w2 none) (.cells #[.int .u8 1] 5)
  refine ((reduce_any 1 1 _ _ [1] _ rfl (by decide) hn ((HT.out.stay (gb_trans S0.out S1.out)).stay hgn)).mono fun e w' h => h.bytes (scB_length _) (scB_lt _)).mono ?_
  rintro e w3 ⟨gr, rfl, hg, hb⟩
  have S2 := Lib.hid (gb_trans hgn hg); clear hg hgn hn
  have Hr := Lib.hid hb; clear hb
  go_wp2_with fail
  refine ((sone_any 1 w3).mono fun e w' h => h.bytes (oneB_length 1) (oneB_lt 1 (by decide))).mono ?_
  rintro e w4 ⟨gb, rfl, hg, hb⟩
  have S3 := Lib.hid hg; clear hg
  have Hb := Lib.hid hb; clear hb
  go_wp2_with fail
  refine (sameBytes_yes _ _ 32 32 _ _ _ _ w4 scB_one1 (scB_length _) (Hr.out.stay S3.out) Hb.out).mono ?_
  rintro e w5 ⟨rfl, hg⟩
  have S4 := Lib.hid hg; clear hg
  go_wp2_with fail
  refine ((l_any (0) 237 w5 (by decide) (by decide)).mono fun e w' h => h.bytes (rfl) (ordB_lt 237 (by decide))).mono ?_
  rintro e w6 ⟨gc, rfl, hg, hb⟩
  have S5 := Lib.hid hg; clear hg
  have Hc := Lib.hid hb; clear hb
  go_wp2_with fail
  refine ((reduce_any 32 32 _ _ (ordB 237) w6 (rfl) (by decide) Hc.out (HT.out.stay (gb_trans (gb_trans (gb_trans (gb_trans (gb_trans S0.out S1.out) S2.out) S3.out) S4.out) S5.out))).mono fun e w' h => h.bytes (scB_length _) (scB_lt _)).mono ?_
  rintro e w7 ⟨gd, rfl, hg, hb⟩
  have S6 := Lib.hid hg; clear hg
  have Hd := Lib.hid hb; clear hb
  go_wp2_with fail
  refine ((sone_any 0 w7).mono fun e w' h => h.bytes (oneB_length 0) (oneB_lt 0 (by decide))).mono ?_
  rintro e w8 ⟨ge0, rfl, hg, hb⟩
  have S7 := Lib.hid hg; clear hg
  have He0 := Lib.hid hb; clear hb
  go_wp2_with fail
  refine (sameBytes_yes _ _ 32 32 _ _ _ _ w8 scB_ord (scB_length _) (Hd.out.stay S7.out) He0.out).mono ?_
  rintro e w9 ⟨rfl, hg⟩
  have S8 := Lib.hid hg; clear hg
  go_wp2_with fail
  refine ((sone_any 2 w9).mono fun e w' h => h.bytes (oneB_length 2) (oneB_lt 2 (by decide))).mono ?_
  rintro e w10 ⟨gf, rfl, hg, hb⟩
  have S9 := Lib.hid hg; clear hg
  have Hf := Lib.hid hb; clear hb
  go_wp2_with fail
  refine ((sone_any 3 w10).mono fun e w' h => h.bytes (oneB_length 3) (oneB_lt 3 (by decide))).mono ?_
  rintro e w11 ⟨gh, rfl, hg, hb⟩
  have S10 := Lib.hid hg; clear hg
  have Hh := Lib.hid hb; clear hb
  go_wp2_with fail
  refine ((sone_any 4 w11).mono fun e w' h => h.bytes (oneB_length 4) (oneB_lt 4 (by decide))).mono ?_
  rintro e w12 ⟨gi, rfl, hg, hb⟩
  have S11 := Lib.hid hg; clear hg
  have Hi := Lib.hid hb; clear hb
  go_wp2_with fail
  refine ((mulAddB_any 32 32 32 _ _ _ _ _ _ (oneB 2) (oneB 3) (oneB 4) w12 (oneB_length _) (oneB_length _) (oneB_length _) (Hf.out.stay (gb_trans S10.out S11.out)) (Hh.out.stay S11.out) Hi.out (HT.out.stay (gb_trans (gb_trans (gb_trans (gb_trans (gb_trans (gb_trans (gb_trans (gb_trans (gb_trans (gb_trans (gb_trans S0.out S1.out) S2.out) S3.out) S4.out) S5.out) S6.out) S7.out) S8.out) S9.out) S10.out) S11.out))).mono fun e w' h => h.bytes (scB_length _) (scB_lt _)).mono ?_
  rintro e w13 ⟨gj, rfl, hg, hb⟩
  have S12 := Lib.hid hg; clear hg
  have Hj := Lib.hid hb; clear hb
  go_wp2_with fail
  refine ((sone_any 10 w13).mono fun e w' h => h.bytes (oneB_length 10) (oneB_lt 10 (by decide))).mono ?_
  rintro e w14 ⟨gk, rfl, hg, hb⟩
  have S13 := Lib.hid hg; clear hg
  have Hk := Lib.hid hb; clear hb
  go_wp2_with fail
  refine (sameBytes_yes _ _ 32 32 _ _ _ _ w14 scB_ten (scB_length _) (Hj.out.stay S13.out) Hk.out).mono ?_
  rintro e w15 ⟨rfl, hg⟩
  have S14 := Lib.hid hg; clear hg
  go_wp2_with fail
  refine ((l_any (0) 237 w15 (by decide) (by decide)).mono fun e w' h => h.bytes (rfl) (ordB_lt 237 (by decide))).mono ?_
  rintro e w16 ⟨gm, rfl, hg, hb⟩
  have S15 := Lib.hid hg; clear hg
  have Hm := Lib.hid hb; clear hb
  go_wp2_with fail
  refine (sright_any 32 _ _ (ordB 237) w16 rfl Hm.out (HT.out.stay (gb_trans (gb_trans (gb_trans (gb_trans (gb_trans (gb_trans (gb_trans (gb_trans (gb_trans (gb_trans (gb_trans (gb_trans (gb_trans (gb_trans (gb_trans S0.out S1.out) S2.out) S3.out) S4.out) S5.out) S6.out) S7.out) S8.out) S9.out) S10.out) S11.out) S12.out) S13.out) S14.out) S15.out))).mono ?_
  rw [right_no]
  rintro e w17 ⟨rfl, hg⟩
  have S16 := Lib.hid hg; clear hg
  go_wp2_with fail
  refine ((l_any (-1) 236 w17 (by decide) (by decide)).mono fun e w' h => h.bytes (rfl) (ordB_lt 236 (by decide))).mono ?_
  rintro e w18 ⟨gn, rfl, hg, hb⟩
  have S17 := Lib.hid hg; clear hg
  have Hn := Lib.hid hb; clear hb
  go_wp2_with fail
  refine (sright_any 32 _ _ (ordB 236) w18 rfl Hn.out (HT.out.stay (gb_trans (gb_trans (gb_trans (gb_trans (gb_trans (gb_trans (gb_trans (gb_trans (gb_trans (gb_trans (gb_trans (gb_trans (gb_trans (gb_trans (gb_trans (gb_trans (gb_trans S0.out S1.out) S2.out) S3.out) S4.out) S5.out) S6.out) S7.out) S8.out) S9.out) S10.out) S11.out) S12.out) S13.out) S14.out) S15.out) S16.out) S17.out))).mono ?_
  rw [right_yes]
  rintro e w19 ⟨rfl, hg⟩
  have S18 := Lib.hid hg; clear hg
  have hbb := HB.out.grown (gb_trans (gb_trans (gb_trans (gb_trans (gb_trans (gb_trans (gb_trans (gb_trans (gb_trans (gb_trans (gb_trans (gb_trans (gb_trans (gb_trans (gb_trans (gb_trans S2.out S3.out) S4.out) S5.out) S6.out) S7.out) S8.out) S9.out) S10.out) S11.out) S12.out) S13.out) S14.out) S15.out) S16.out) S17.out) S18.out) (by simp)
  have c0 := hbb.cell (one_get _ 0 (by decide))
  have c1 := hbb.cell (one_get _ 1 (by decide))
  have e0 : bitAt (fun i => (oneB 1).getD i 0) 0 = true := by decide
  have e1 : bitAt (fun i => (oneB 1).getD i 0) 1 = false := by decide
  rw [e0] at c0
  rw [e1] at c1
  clear hbb e0 e1
  go_wp2
  go_ret
  exact ⟨rfl, (gb_trans (gb_trans (gb_trans (gb_trans (gb_trans (gb_trans (gb_trans (gb_trans (gb_trans (gb_trans (gb_trans (gb_trans (gb_trans (gb_trans (gb_trans (gb_trans (gb_trans (gb_trans S0.out S1.out) S2.out) S3.out) S4.out) S5.out) S6.out) S7.out) S8.out) S9.out) S10.out) S11.out) S12.out) S13.out) S14.out) S15.out) S16.out) S17.out) S18.out)⟩
end Go.Proofs.YtmnlidfalhjghaaGreatDoor

/- The kit's lent bytes: a copy with marks behind it; whether they were kept. -/
namespace Go.Proofs.YtmnlidfalhjghaaGreatDoor
open Go.RowKit Ow

/-- the mark of a place in a list of bytes -/
def mkB (k i : Nat) : Nat := (1000003 * (k + 7) + i) * 11400714819323198485 % 18446744073709551616 / 72057594037927936
theorem mkB_lt (k i : Nat) : mkB k i < 256 := by unfold mkB; omega
theorem mkB_is (k i : Nat) : IntKind.u64.wrap ((1000003 * ((k : Int) + 7) + (i : Int)) * 11400714819323198485) / 72057594037927936 % 256 = ((mkB k i : Nat) : Int) := by
  have e : (1000003 * ((k : Int) + 7) + (i : Int)) * 11400714819323198485 = (((1000003 * (k + 7) + i) * 11400714819323198485 : Nat) : Int) := by omega
  rw [e, IntKind.wrap_u64]
  unfold mkB
  generalize (1000003 * (k + 7) + i) * 11400714819323198485 = x
  omega
set_option maxHeartbeats 400000 in
theorem mkByte_any (k i : Nat) (w : World) (hk : k ≤ 1000000) (hi : i ≤ 1000000) :
    Calls Tryz.prog 23 #[.int .i64 k, .int .i64 i] w fun e w' => e = .returned (.int .u8 (mkB k i)) ∧ w' = w := by
  go_enter Tryz.func23, Tryz.ntmps23
  go_wp2
  go_ret
  refine ⟨?_, rfl⟩
  rw [← mkB_is]; rfl
/-- marks, by whatever function; Marks f: the kit's -/
structure Marks (f : Nat → Nat → Nat) : Prop where
  lt : ∀ k i, f k i < 256
  run : ∀ (k i : Nat) (x y : Int) (w : World), x = k → y = i → k ≤ 1000000 → i ≤ 1000000 → Calls Tryz.prog 23 #[.int .i64 x, .int .i64 y] w fun e w' => e = .returned (.int .u8 (f k i)) ∧ w' = w
theorem marks_kit : Marks mkB := ⟨mkB_lt, fun k i x y w hx hy hk hi => by subst hx; subst hy; exact mkByte_any k i w hk hi⟩
theorem marks_are : ∃ f, Marks f := ⟨mkB, marks_kit⟩
def marksOf (f : Nat → Nat → Nat) (k j : Nat) : List Nat := (List.range j).map (f k)
theorem marksOf_length (f : Nat → Nat → Nat) (k j : Nat) : (marksOf f k j).length = j := by simp [marksOf]
theorem marksOf_next (f : Nat → Nat → Nat) (k j : Nat) : (marksOf f k (j + 1)).map u8N = (marksOf f k j).map u8N ++ [u8N (f k j)] := by simp [marksOf, List.range_succ]
theorem marksOf_get (f : Nat → Nat → Nat) (k j i : Nat) (h : i < j) : (marksOf f k j).getD i 0 = f k i := by
  unfold marksOf; rw [List.getD_eq_getElem?_getD, List.getElem?_map, List.getElem?_range h]; rfl
theorem marksOf_lt {f : Nat → Nat → Nat} (hf : Marks f) (k j i : Nat) : (marksOf f k j).getD i 0 < 256 := by
  by_cases h : i < j
  · rw [marksOf_get f k j i h]; exact hf.lt _ _
  · rw [List.getD_eq_getElem?_getD, List.getElem?_eq_none (by rw [marksOf_length]; omega)]; decide
set_option maxHeartbeats 1000000 in
theorem lentB_any {f : Nat → Nat → Nat} (hf : Marks f) (n cap B : Nat) (p : List Nat) (a : Option Addr) (w : World) (hn : p.length = n) (hP : BytesAt w B a cap p) (hlen : n ≤ 30000) :
    Calls Tryz.prog 7 #[.slice a n cap] w fun e w' => ∃ g, e = .returned (.slice (some ⟨g, 0, none⟩) n (n + 12)) ∧ w.grownBy w' none ∧ w.heap.size ≤ g ∧ Blk w' g 5 ((p ++ marksOf f 1 12).map u8N) := by
  have HF := Lib.hid hf; clear hf
  obtain ⟨w1, hmk, hg1, hs1, hb1⟩ := make_bytes 0 (n + 12) w (by omega) (by omega)
  have ho1 : w1.ownsRow w.heap.size 5 1 (.slice (some ⟨w.heap.size, 0, none⟩) 0 (n + 12)) 0 [] :=
    ⟨rfl, Or.inr ⟨w.heap.size, n + 12, _, rfl, Nat.le_refl _, hb1, by omega, by unfold maxLen; omega, by simp, by simp⟩⟩
  obtain ⟨w2, hap, ho2, hg2⟩ := append_bytes_fits w1 w.heap.size w.heap.size 0 (n + 12) B cap n [] a p ho1 hn (hP.stay hg1) (by omega)
  have hg02 := gb_then hg1 hg2 (Nat.le_refl _)
  rw [Nat.zero_add, List.nil_append] at ho2
  have hmk' : (Instr.makeSlice 22 (.int .i64 0) (.int .i64 ((n : Int) + 12))).run Tryz.prog w = .ok (.slice (some ⟨w.heap.size, 0, none⟩) 0 (n + 12)) w1 := hmk
  rw [Nat.zero_add] at hap
  have H2 := Lib.hid (And.intro hap (And.intro ho2 hg02)); clear hap ho2 hg02 hg1 hg2 ho1 hmk hs1 hb1 hP
  go_enter Tryz.func7, Tryz.ntmps7
  go_wp2_with (at_builtin; refine wpList_append_run rfl (.tmp 9) (.tmp 10) 22 rfl rfl _ _ rfl rfl _ _ H2.out.1 ?_)
  go_loopw [3, 4] (fun v i wr => ∃ j m : Nat, j ≤ 12 ∧ m = n + j ∧ i = .int .i64 j ∧ v = .slice (some ⟨w.heap.size, 0, none⟩) m (n + 12) ∧ wr.ownsRow w.heap.size 5 1 (.slice (some ⟨w.heap.size, 0, none⟩) m (n + 12)) m (p.map u8N ++ (marksOf f 1 j).map u8N) ∧ w.grownBy wr none) (fun _ i _ => 12 - (intOf i).toNat)
  case atStart => exact ⟨0, n, by omega, rfl, rfl, rfl, by simpa [marksOf] using H2.out.2.1, H2.out.2.2⟩
  case round =>
    obtain ⟨j, m, hj, hm, rfl, rfl, hown, hg⟩ := hrel
    by_cases hlt : j < 12
    · obtain ⟨y, hy⟩ : ∃ y, y = f 1 j := ⟨_, rfl⟩
      obtain ⟨w3, hap, ho3, hg3⟩ := append_byte_fits wr w.heap.size w.heap.size m (n + 12) y _ (by rw [hy]; exact HF.out.lt _ _) hown (by omega)
      have hg4 := gb_then hg hg3 (Nat.le_refl _)
      rw [List.append_assoc, hy, ← marksOf_next] at ho3
      unfold u8N at hap
      have hmb := fun W => HF.out.run 1 j 1 j W rfl rfl (by decide) (by omega)
      rw [← hy] at hmb
      have HI := Lib.hid (And.intro hap (And.intro ho3 (And.intro hg4 (And.intro hm hmb)))); clear hap ho3 hg4 hg3 hm hown hg hy hmb
      have i0 : (j : Int) < 12 := by omega
      go_wp2_with fail
      refine (HI.out.2.2.2.2 wr).mono ?_
      rintro e w4 ⟨rfl, rfl⟩
      go_wp2_with (at_builtin; refine wpList_append_run rfl (.tmp 16) (.tmp 19) 22 rfl rfl _ _ rfl rfl _ _ HI.out.1 ?_)
      go_roundw
      case rel => exact ⟨j + 1, m + 1, by omega, by have := HI.out.2.2.2.1; omega, by go_num, rfl, HI.out.2.1, HI.out.2.2.1⟩
      case measure => simp [intOf]; omega
    · obtain rfl : j = 12 := by omega
      have e : m = n + 12 := hm
      subst e
      rw [← List.map_append] at hown
      rcases hown.2 with ⟨h0, _⟩ | ⟨g', c', cur, e1, hbg, hgh, _, _, hs, ht⟩
      · cases h0
      · cases e1
        have hcur : cur.toList = (p ++ marksOf f 1 12).map u8N := by rw [← ht, List.take_of_length_le]; rw [Array.length_toList]; omega
        have hblk : Blk wr w.heap.size 5 ((p ++ marksOf f 1 12).map u8N) := by unfold Blk; rw [hgh, ← hcur, Array.toArray_toList]
        have HI := Lib.hid (And.intro hblk hg); clear hown hg hm hgh hcur hblk ht hs
        go_wp2
        go_ret
        exact ⟨w.heap.size, rfl, HI.out.2, Nat.le_refl _, HI.out.1⟩
end Go.Proofs.YtmnlidfalhjghaaGreatDoor

/- A region that draws its order, by what each operation leaves in its slot: one obligation for each operation, whatever order is drawn. No program is named here. -/
namespace Go.Proofs.YtmnlidfalhjghaaGreatDoor
open Go
section
variable {P : Program} {ops : Array Oper} {Q : Exit → Act → World → Prop} {G : Nat → Value → World → Prop} {M : Nat → World → Prop} {B : World → Prop} {Rel : World → World → Prop} {a0 : Act}

def notDst (ops : Array Oper) (d : Nat) : Bool := ops.all fun o => o.dst != some d
def isDst (ops : Array Oper) (d : Nat) : Bool := ops.any fun o => o.dst == some d
def waits (ops : Array Oper) (o : Oper) (d : Nat) : Bool := o.after.any fun e => Region.binds .any e && ((ops[e.on]?).bind (·.dst)) == some d
def waitsFor (o : Oper) (j : Nat) : Bool := o.after.any fun e => Region.binds .any e && e.on == j
/-- the state amid a region: what is listed has left in its slot, or in memory, what it should -/
structure Flow (G : Nat → Value → World → Prop) (M : Nat → World → Prop) (B : World → Prop) (a0 : Act) (ops : Array Oper) (listed : Array Bool) (a : Act) (w : World) : Prop where
  base : B w
  size : a.tmps.size = a0.tmps.size
  defers : a.defers = a0.defers
  rest : ∀ d, notDst ops d = true → a.tmps.getD d undef = a0.tmps.getD d undef
  slots : ∀ j oj d, ops[j]? = some oj → listed.getD j false = true → oj.dst = some d → G d (a.tmps.getD d undef) w
  mems : ∀ j oj, ops[j]? = some oj → listed.getD j false = true → oj.dst = none → M j w
/-- the state at one operation: what it waits for has left what it should -/
structure FlowAt (G : Nat → Value → World → Prop) (M : Nat → World → Prop) (B : World → Prop) (a0 : Act) (ops : Array Oper) (o : Oper) (a : Act) (w : World) : Prop where
  base : B w
  size : a.tmps.size = a0.tmps.size
  defers : a.defers = a0.defers
  rest : ∀ d, notDst ops d = true → a.tmps.getD d undef = a0.tmps.getD d undef
  dep : ∀ d, waits ops o d = true → G d (a.tmps.getD d undef) w
  mem : ∀ j oj, ops[j]? = some oj → waitsFor o j = true → oj.dst = none → M j w
/-- what one operation leaves -/
def FlowPost (G : Nat → Value → World → Prop) (M : Nat → World → Prop) (B : World → Prop) (Rel : World → World → Prop) (i : Nat) (o : Oper) (w : World) (v : Value) (w' : World) : Prop :=
  B w' ∧ Rel w w' ∧ match o.dst with | some d => G d v w' | none => M i w'
def FlowStep (P : Program) (Q : Exit → Act → World → Prop) (G : Nat → Value → World → Prop) (M : Nat → World → Prop) (B : World → Prop) (Rel : World → World → Prop) (a0 : Act) (ops : Array Oper) (i : Nat) (o : Oper) : Prop :=
  ∀ a w, FlowAt G M B a0 ops o a w → ops[i]? = some o → wpOp P ops Q i (fun a' w' => ∃ v, a' = a.put o.dst v ∧ FlowPost G M B Rel i o w v w') a w
def FlowSteps (P : Program) (Q : Exit → Act → World → Prop) (G : Nat → Value → World → Prop) (M : Nat → World → Prop) (B : World → Prop) (Rel : World → World → Prop) (a0 : Act) (ops : Array Oper) : Nat → List Oper → Prop
  | _, [] => True
  | i, o :: r => FlowStep P Q G M B Rel a0 ops i o ∧ FlowSteps P Q G M B Rel a0 ops (i + 1) r
theorem flowSteps_get : ∀ (l : List Oper) (i k : Nat) (o : Oper), FlowSteps P Q G M B Rel a0 ops i l → l[k]? = some o → FlowStep P Q G M B Rel a0 ops (i + k) o := by
  intro l
  induction l with
  | nil => intro i k o _ h; simp at h
  | cons x r ih =>
    intro i k o h hk
    cases k with
    | zero => simp at hk; subst hk; exact h.1
    | succ k => have := ih (i + 1) k o h.2 (by simpa using hk); rwa [show i + (k + 1) = i + 1 + k by omega]

/-- each operation waits for earlier ones alone; no slot is written twice; each slot is there -/
def topo (ops : Array Oper) : Bool := (List.range ops.size).all fun i => ((ops[i]?).map fun o => o.after.all fun e => !Region.binds .any e || decide (e.on < i)).getD true
def onceL : List (Option Tmp) → Bool
  | [] => true
  | none :: r => onceL r
  | some d :: r => r.all (· != some d) && onceL r
def once (ops : Array Oper) (n : Nat) : Bool := onceL (ops.toList.map (·.dst)) && ops.all fun o => match o.dst with | some d => decide (d < n) | none => true
theorem onceL_ne : ∀ (l : List (Option Tmp)), onceL l = true → ∀ (i j : Nat) (d d' : Tmp), l[i]? = some (some d) → l[j]? = some (some d') → i ≠ j → d ≠ d' := by
  intro l
  induction l with
  | nil => intro _ i j d d' h; simp at h
  | cons x r ih =>
    intro h i j d d' hi hj hne
    have hr : onceL r = true := by cases x with | none => exact h | some y => simp [onceL] at h; exact h.2
    cases i with
    | zero =>
      cases j with
      | zero => exact absurd rfl hne
      | succ j =>
        simp at hi hj
        subst hi
        simp [onceL] at h
        intro e
        subst e
        exact h.1 _ (List.mem_of_getElem? hj) rfl
    | succ i =>
      cases j with
      | zero =>
        simp at hi hj
        subst hj
        simp [onceL] at h
        intro e
        subst e
        exact h.1 _ (List.mem_of_getElem? hi) rfl
      | succ j => exact ih hr i j d d' (by simpa using hi) (by simpa using hj) (fun e => hne (by rw [e]))
theorem once_ne {n : Nat} (h : once ops n = true) {i j : Nat} {oi oj : Oper} (hi : ops[i]? = some oi) (hj : ops[j]? = some oj) (hne : i ≠ j) {d : Nat} (hd : oi.dst = some d) : oj.dst ≠ some d := by
  intro e
  have h1 : onceL (ops.toList.map (·.dst)) = true := by simp only [once, Bool.and_eq_true] at h; exact h.1
  refine onceL_ne _ h1 i j d d ?_ ?_ hne rfl
  · rw [List.getElem?_map, Array.getElem?_toList, hi]; simp [hd]
  · rw [List.getElem?_map, Array.getElem?_toList, hj]; simp [e]
theorem once_lt {n : Nat} (h : once ops n = true) {i : Nat} {oi : Oper} (hi : ops[i]? = some oi) {d : Nat} (hd : oi.dst = some d) : d < n := by
  simp only [once, Bool.and_eq_true] at h
  have := (Array.all_eq_true_iff_forall_mem.1 h.2) oi (Array.mem_of_getElem? hi)
  simpa [hd] using this
theorem filter_le {α : Type} (p q : α → Bool) (l : List α) (h : ∀ x, q x = true → p x = true) : (l.filter q).length ≤ (l.filter p).length := by
  induction l with
  | nil => simp
  | cons x r ih =>
    by_cases hq : q x = true
    · simp [hq, h x hq, ih]
    · by_cases hp : p x = true
      · simp [hq, hp]; omega
      · simp [hq, hp, ih]
theorem filter_lt {α : Type} (p q : α → Bool) (l : List α) (h : ∀ x, q x = true → p x = true) (x : α) (hx : x ∈ l) (hp : p x = true) (hq : q x = false) : (l.filter q).length < (l.filter p).length := by
  induction l with
  | nil => cases hx
  | cons y r ih =>
    have hle := filter_le p q r h
    rcases List.mem_cons.1 hx with e | e
    · subst e; simp [hp, hq]; omega
    · have := ih e
      by_cases hqy : q y = true
      · simp [hqy, h y hqy, this]
      · by_cases hpy : p y = true
        · simp [hqy, hpy]; omega
        · simp [hqy, hpy, this]
def unlisted (ops : Array Oper) (listed : Array Bool) : Nat := ((List.range ops.size).filter fun i => !listed.getD i true).length
theorem unlisted_lt {listed : Array Bool} {i : Nat} (h : i ∈ Region.ready .any ops listed) : unlisted ops (listed.setIfInBounds i true) < unlisted ops listed := by
  obtain ⟨h0, o, ho, _⟩ := mem_ready.1 h
  have hi : i < ops.size := by
    rcases Nat.lt_or_ge i ops.size with h' | h'
    · exact h'
    · rw [Array.getElem?_eq_none h'] at ho; cases ho
  have hset : (listed.setIfInBounds i true).getD i true = true := by
    rcases Nat.lt_or_ge i listed.size with h' | h'
    · simp [h']
    · simp [Array.getElem?_eq_none (show (listed.setIfInBounds i true).size ≤ i by simpa using h')]
  refine filter_lt _ _ _ (fun x hx => ?_) i (List.mem_range.2 hi) (by rw [h0]; rfl) (by rw [hset]; rfl)
  by_cases e : i = x
  · subst e; rw [hset] at hx; cases hx
  · rwa [getD_set_ne true e] at hx
theorem all_listed (ht : topo ops = true) {listed : Array Bool} (hs : listed.size = ops.size) (hr : Region.ready .any ops listed = []) : ∀ i, i < ops.size → listed.getD i false = true := by
  intro i
  induction i using Nat.strongRecOn with
  | _ i ih =>
    intro hi
    by_cases hl : listed.getD i false = true
    · exact hl
    have hi' : i < listed.size := by omega
    have hf : listed.getD i true = false := by
      simp [hi'] at hl ⊢; exact hl
    have : i ∈ Region.ready .any ops listed := mem_ready.2 ⟨hf, ops[i], Array.getElem?_eq_getElem hi, fun e he hb => by
      have h1 := (List.all_eq_true.1 ht) i (List.mem_range.2 hi)
      rw [Array.getElem?_eq_getElem hi] at h1
      have h2 : (ops[i].after.all fun e => !Region.binds .any e || decide (e.on < i)) = true := h1
      have h3 : e.on < i := by
        have := (Array.all_eq_true_iff_forall_mem.1 h2) e he
        simpa [hb] using this
      exact ih e.on h3 (by omega)⟩
    rw [hr] at this
    cases this
theorem flow_any (ht : topo ops = true) (ho : once ops a0.tmps.size = true) (stab : ∀ d u w w', Rel w w' → G d u w → G d u w') (stabM : ∀ j w w', Rel w w' → M j w → M j w')
    (steps : FlowSteps P Q G M B Rel a0 ops 0 ops.toList)
    (fin : ∀ a w, B w → a.tmps.size = a0.tmps.size → a.defers = a0.defers → (∀ d, notDst ops d = true → a.tmps.getD d undef = a0.tmps.getD d undef) → (∀ d, isDst ops d = true → G d (a.tmps.getD d undef) w) →
      (∀ j oj, ops[j]? = some oj → oj.dst = none → M j w) → Q .normal a w) :
    ∀ (fuel : Nat) (listed : Array Bool) (a : Act) (w : World), listed.size = ops.size → unlisted ops listed ≤ fuel → Flow G M B a0 ops listed a w → wpAny P .any ops Q fuel listed a w := by
  have inn : ∀ {j : Nat} {oj : Oper}, ops[j]? = some oj → j < ops.size := by
    intro j oj hj
    rcases Nat.lt_or_ge j ops.size with h' | h'
    · exact h'
    · rw [Array.getElem?_eq_none h'] at hj; cases hj
  have go : ∀ (listed : Array Bool) (a : Act) (w : World), listed.size = ops.size → Flow G M B a0 ops listed a w → Region.ready .any ops listed = [] → Q .normal a w := by
    intro listed a w hs hF hr
    have hall := all_listed ht hs hr
    refine fin a w hF.base hF.size hF.defers hF.rest (fun d hd => ?_) (fun j oj hj hn => hF.mems j oj hj (hall j (inn hj)) hn)
    obtain ⟨k, hk, hb⟩ := Array.any_eq_true.1 hd
    exact hF.slots k ops[k] d (Array.getElem?_eq_getElem hk) (hall k hk) (by simpa using hb)
  intro fuel
  induction fuel with
  | zero =>
    intro listed a w hs hu hF
    have hr : Region.ready .any ops listed = [] := by
      cases hc : Region.ready .any ops listed with
      | nil => rfl
      | cons x r =>
        have := unlisted_lt (ops := ops) (listed := listed) (i := x) (by rw [hc]; exact List.mem_cons_self ..)
        omega
    exact ⟨hr, go listed a w hs hF hr⟩
  | succ fuel ih =>
    intro listed a w hs hu hF
    refine ⟨go listed a w hs hF, fun i hi => ?_⟩
    obtain ⟨h0, o, hoi, hall⟩ := mem_ready.1 hi
    have hst := flowSteps_get ops.toList 0 i o steps (by rw [Array.getElem?_toList]; exact hoi)
    rw [Nat.zero_add] at hst
    have hat : FlowAt G M B a0 ops o a w := ⟨hF.base, hF.size, hF.defers, hF.rest, fun d hd => by
        obtain ⟨k, hk, hb⟩ := Array.any_eq_true.1 hd
        simp only [Bool.and_eq_true, beq_iff_eq] at hb
        have hl := hall _ (Array.getElem_mem hk) hb.1
        cases hx : ops[o.after[k].on]? with
        | none => rw [hx] at hb; cases hb.2
        | some oj => rw [hx] at hb; exact hF.slots _ oj d hx hl hb.2,
      fun j oj hj ha hn => by
        obtain ⟨k, hk, hb⟩ := Array.any_eq_true.1 ha
        simp only [Bool.and_eq_true, beq_iff_eq] at hb
        have hl := hall _ (Array.getElem_mem hk) hb.1
        rw [hb.2] at hl
        exact hF.mems j oj hj hl hn⟩
    refine wpOp_mono (fun a' w' h => ?_) (hst a w hat hoi)
    obtain ⟨v, rfl, hB, hR, hG⟩ := h
    have hlt := unlisted_lt hi
    refine ih _ _ _ (by simpa using hs) (by omega) ⟨hB, ?_, ?_, ?_, ?_, ?_⟩
    · rw [← hF.size]; cases o.dst <;> simp [Act.put]
    · rw [← hF.defers]; cases o.dst <;> simp [Act.put]
    · intro d hd
      rw [← hF.rest d hd]
      have hne : o.dst ≠ some d := by
        have := (Array.all_eq_true_iff_forall_mem.1 hd) o (Array.mem_of_getElem? hoi)
        simpa using this
      cases hod : o.dst with
      | none => rfl
      | some d' => rw [hod] at hne; simp [Act.put, Array.getElem?_setIfInBounds_ne (show d' ≠ d from fun e => hne (by rw [e]))]
    · intro j oj d hj hl hd
      by_cases e : i = j
      · subst e
        rw [hoi] at hj
        cases hj
        have hd2 := once_lt ho hoi hd
        rw [← hF.size] at hd2
        rw [hd] at hG ⊢
        simpa [Act.put, hd2] using hG
      · rw [getD_set_ne false e] at hl
        have h1 := hF.slots j oj d hj hl hd
        have hv : (a.put o.dst v).tmps.getD d undef = a.tmps.getD d undef := by
          cases hod : o.dst with
          | none => rfl
          | some d' =>
            have := once_ne ho hoi hj e hod
            rw [hd] at this
            simp [Act.put, Array.getElem?_setIfInBounds_ne (show d' ≠ d from fun e => this (by rw [e]))]
        rw [hv]
        exact stab d _ w w' hR h1
    · intro j oj hj hl hn
      by_cases e : i = j
      · subst e
        rw [hoi] at hj
        cases hj
        rw [hn] at hG
        exact hG
      · rw [getD_set_ne false e] at hl
        exact stabM j w w' hR (hF.mems j oj hj hl hn)
/-- A REGION THAT DRAWS ITS ORDER, by one obligation for each operation. G d v w: what slot d has; M j w: what operation j, that has no slot, has done; B: what holds of memory throughout; Rel: what one operation may do to memory. -/
theorem wp_region_flow {id : Nat} {w : World} (G : Nat → Value → World → Prop) (M : Nat → World → Prop) (B : World → Prop) (Rel : World → World → Prop) (hm : P.follows .mixedOrders = true) (ht : topo ops = true) (ho : once ops a0.tmps.size = true) (hB : B w.drew)
    (stab : ∀ d u w w', Rel w w' → G d u w → G d u w') (stabM : ∀ j w w', Rel w w' → M j w → M j w') (steps : FlowSteps P Q G M B Rel a0 ops 0 ops.toList)
    (fin : ∀ a w, B w → a.tmps.size = a0.tmps.size → a.defers = a0.defers → (∀ d, notDst ops d = true → a.tmps.getD d undef = a0.tmps.getD d undef) → (∀ d, isDst ops d = true → G d (a.tmps.getD d undef) w) →
      (∀ j oj, ops[j]? = some oj → oj.dst = none → M j w) → Q .normal a w) : (Code.region id ops true).wp P Q a0 w :=
  wp_region_any hm (flow_any ht ho stab stabM steps fin ops.size _ a0 _ (by simp) (by unfold unlisted; exact Nat.le_trans (List.length_filter_le _ _) (by simp))
    ⟨hB, rfl, rfl, fun _ _ => rfl, fun j oj d _ hl _ => by
      by_cases h : j < ops.size <;> simp [h] at hl, fun j oj _ hl _ => by
      by_cases h : j < ops.size <;> simp [h] at hl⟩)

theorem wanted_none {o : Oper} (h : o.guard = none) (f : Nat → Option Bool) : Region.wanted o f = true := by simp [Region.wanted, h]
/-- an operation that yields a value -/
theorem flow_value {i : Nat} {o : Oper} {d : Nat} (hd : o.dst = some d) (hg : o.guard = none) (h : ∀ a w, FlowAt G M B a0 ops o a w → ∃ v w', (execOp a.eval o).run P w = .ok (.value v) w' ∧ B w' ∧ Rel w w' ∧ G d v w') : FlowStep P Q G M B Rel a0 ops i o := by
  intro a w hF hi
  obtain ⟨v, w', hr, hB, hR, hG⟩ := h a w hF
  unfold wpOp
  simp only [hi, wanted_none hg, if_true]
  refine Or.inl ?_
  unfold Oper.wp
  rw [hr]
  exact ⟨v, rfl, hB, hR, by rw [hd]; exact hG⟩
/-- an operation that leaves no value -/
theorem flow_skip {i : Nat} {o : Oper} (hd : o.dst = none) (hg : o.guard = none) (h : ∀ a w, FlowAt G M B a0 ops o a w → ∃ w', (execOp a.eval o).run P w = .ok .skip w' ∧ B w' ∧ Rel w w' ∧ M i w') : FlowStep P Q G M B Rel a0 ops i o := by
  intro a w hF hi
  obtain ⟨w', hr, hB, hR, hG⟩ := h a w hF
  unfold wpOp
  simp only [hi, wanted_none hg, if_true]
  refine Or.inl ?_
  unfold Oper.wp
  rw [hr]
  exact ⟨undef, rfl, hB, hR, by rw [hd]; exact hG⟩
/-- a call -/
theorem flow_call {i : Nat} {o : Oper} {d : Nat} (hd : o.dst = some d) (hg : o.guard = none)
    (h : ∀ a w, FlowAt G M B a0 ops o a w → ∃ f args, (execOp a.eval o).run P w = .ok (.enter f args) w ∧ Calls P f args w fun e w' => ∃ v, e = .returned v ∧ B w' ∧ Rel w w' ∧ G d v w') : FlowStep P Q G M B Rel a0 ops i o := by
  intro a w hF hi
  obtain ⟨f, args, hr, hc⟩ := h a w hF
  unfold wpOp
  simp only [hi, wanted_none hg, if_true]
  refine Or.inl ?_
  unfold Oper.wp
  rw [hr]
  refine Calls.mono hc fun e w' he => ?_
  obtain ⟨v, rfl, hB, hR, hG⟩ := he
  exact ⟨v, rfl, hB, hR, by rw [hd]; exact hG⟩
end
end Go.Proofs.YtmnlidfalhjghaaGreatDoor
