/- scalar: the mathematics: words of a number, what is left of a division by the order. -/
import Derived.Lib.Hide
namespace Go.Proofs.YtmnlidfalhjghaaGreatDoor
namespace Sc

def L : Nat := 7237005577332262213973186563042994240857116359379907606001950938285454250989
/-- word j of a number -/
def wrd (n j : Nat) : Nat := n / 2 ^ (64 * j) % 18446744073709551616
/-- byte i of a number -/
def byt (n i : Nat) : Nat := n / 2 ^ (8 * i) % 256
theorem wrd_lt (n j : Nat) : wrd n j < 18446744073709551616 := Nat.mod_lt _ (by decide)
theorem byt_lt (n i : Nat) : byt n i < 256 := Nat.mod_lt _ (by decide)
theorem wrd0 (n : Nat) : wrd n 0 = n % 18446744073709551616 := by unfold wrd; simp
theorem wrd1 (n : Nat) : wrd n 1 = n / 18446744073709551616 % 18446744073709551616 := by unfold wrd; rfl
theorem wrd2 (n : Nat) : wrd n 2 = n / 340282366920938463463374607431768211456 % 18446744073709551616 := by unfold wrd; rfl
theorem wrd3 (n : Nat) : wrd n 3 = n / 6277101735386680763835789423207666416102355444464034512896 % 18446744073709551616 := by unfold wrd; rfl
/-- four words make the number -/
theorem of4 (n : Nat) (h : n < 2 ^ 256) : n = wrd n 0 + wrd n 1 * 18446744073709551616 + wrd n 2 * 340282366920938463463374607431768211456 + wrd n 3 * 6277101735386680763835789423207666416102355444464034512896 := by
  have e : (2 : Nat) ^ 256 = 115792089237316195423570985008687907853269984665640564039457584007913129639936 := by decide
  rw [e] at h
  rw [wrd0, wrd1, wrd2, wrd3]
  have h1 : n / 340282366920938463463374607431768211456 = n / 18446744073709551616 / 18446744073709551616 := by rw [Nat.div_div_eq_div_mul]
  have h2 : n / 6277101735386680763835789423207666416102355444464034512896 = n / 18446744073709551616 / 18446744073709551616 / 18446744073709551616 := by rw [Nat.div_div_eq_div_mul, Nat.div_div_eq_div_mul]
  rw [h1, h2]
  omega
/-- .. and are its words -/
theorem mk4 (a b c d : Nat) (ha : a < 18446744073709551616) (hb : b < 18446744073709551616) (hc : c < 18446744073709551616) (hd : d < 18446744073709551616) (n : Nat)
    (hn : n = a + b * 18446744073709551616 + c * 340282366920938463463374607431768211456 + d * 6277101735386680763835789423207666416102355444464034512896) :
    wrd n 0 = a ∧ wrd n 1 = b ∧ wrd n 2 = c ∧ wrd n 3 = d ∧ n < 2 ^ 256 := by
  have e : (2 : Nat) ^ 256 = 115792089237316195423570985008687907853269984665640564039457584007913129639936 := by decide
  rw [e, wrd0, wrd1, wrd2, wrd3]
  have h1 : n / 18446744073709551616 = b + c * 18446744073709551616 + d * 340282366920938463463374607431768211456 := by omega
  have h2 : n / 340282366920938463463374607431768211456 = c + d * 18446744073709551616 := by
    have : n / 340282366920938463463374607431768211456 = n / 18446744073709551616 / 18446744073709551616 := by rw [Nat.div_div_eq_div_mul]
    rw [this, h1]; omega
  have h3 : n / 6277101735386680763835789423207666416102355444464034512896 = d := by
    have : n / 6277101735386680763835789423207666416102355444464034512896 = n / 340282366920938463463374607431768211456 / 18446744073709551616 := by rw [Nat.div_div_eq_div_mul]
    rw [this, h2]; omega
  rw [h1, h2, h3]
  omega
/-- words of the order -/
def lw : Nat → Nat
  | 0 => 6346243789798364141
  | 1 => 1503914060200516822
  | 2 => 0
  | 3 => 1152921504606846976
  | _ => 0
theorem L_is : L = 6346243789798364141 + 1503914060200516822 * 18446744073709551616 + 0 * 340282366920938463463374607431768211456 + 1152921504606846976 * 6277101735386680763835789423207666416102355444464034512896 := by decide

/-! ### so many orders are taken off -/
def ov (q : Nat) : Nat → Nat
  | 0 => 0
  | k + 1 => (q * lw k + ov q k) / 18446744073709551616
def lo (q k : Nat) : Nat := (q * lw k + ov q k) % 18446744073709551616
def bl (n q : Nat) : Nat → Nat
  | 0 => 0
  | k + 1 => if wrd n k < lo q k + bl n q k then 1 else 0
def rs (n q k : Nat) : Nat := (wrd n k + 36893488147419103232 - lo q k - bl n q k) % 18446744073709551616
theorem lo_lt (q k : Nat) : lo q k < 18446744073709551616 := Nat.mod_lt _ (by decide)
theorem rs_lt (n q k : Nat) : rs n q k < 18446744073709551616 := Nat.mod_lt _ (by decide)
theorem bl_le (n q k : Nat) : bl n q k ≤ 1 := by
  cases k with
  | zero => exact Nat.zero_le _
  | succ k => unfold bl; split <;> omega
theorem lw_lt (k : Nat) : lw k < 18446744073709551616 := by unfold lw; split <;> decide
theorem ov_lt (q k : Nat) (hq : q < 18446744073709551616) : ov q k < 18446744073709551616 := by
  induction k with
  | zero => exact Nat.zero_lt_succ _
  | succ k ih =>
    unfold ov
    have h := Nat.mul_le_mul (Nat.le_pred_of_lt hq) (Nat.le_pred_of_lt (lw_lt k))
    simp only [Nat.pred_eq_sub_one] at h
    omega
/-- the number that is left -/
def offN (n q : Nat) : Nat := rs n q 0 + rs n q 1 * 18446744073709551616 + rs n q 2 * 340282366920938463463374607431768211456 + rs n q 3 * 6277101735386680763835789423207666416102355444464034512896
/-- what is still to be taken from above -/
def offO (n q : Nat) : Nat := ov q 4 + bl n q 4
theorem off_step (n q k : Nat) : wrd n k + bl n q (k + 1) * 18446744073709551616 = rs n q k + lo q k + bl n q k := by
  have h1 := wrd_lt n k
  have h2 := lo_lt q k
  have h3 := bl_le n q k
  have e : bl n q (k + 1) = if wrd n k < lo q k + bl n q k then 1 else 0 := rfl
  rw [e]
  unfold rs
  generalize bl n q k = b at *
  generalize lo q k = l at *
  generalize wrd n k = x at *
  split <;> omega
theorem ov_step (q k : Nat) : q * lw k + ov q k = ov q (k + 1) * 18446744073709551616 + lo q k := by
  have e : ov q (k + 1) = (q * lw k + ov q k) / 18446744073709551616 := rfl
  rw [e]; unfold lo; omega
theorem off_eq (n q : Nat) (h : n < 2 ^ 256) : n + offO n q * 115792089237316195423570985008687907853269984665640564039457584007913129639936 = q * L + offN n q := by
  have e := of4 n h
  have s0 := off_step n q 0
  have s1 := off_step n q 1
  have s2 := off_step n q 2
  have s3 := off_step n q 3
  have o0 := ov_step q 0
  have o1 := ov_step q 1
  have o2 := ov_step q 2
  have o3 := ov_step q 3
  have z0 : ov q 0 = 0 := rfl
  have z1 : bl n q 0 = 0 := rfl
  simp only [lw] at o0 o1 o2 o3
  unfold offO offN
  rw [L_is]
  simp only [Nat.reduceAdd] at *
  omega
theorem off_words (n q : Nat) : wrd (offN n q) 0 = rs n q 0 ∧ wrd (offN n q) 1 = rs n q 1 ∧ wrd (offN n q) 2 = rs n q 2 ∧ wrd (offN n q) 3 = rs n q 3 ∧ offN n q < 2 ^ 256 :=
  mk4 _ _ _ _ (rs_lt ..) (rs_lt ..) (rs_lt ..) (rs_lt ..) _ rfl

/-! ### one order is put back -/
def ca (n : Nat) : Nat → Nat
  | 0 => 0
  | k + 1 => (wrd n k + lw k + ca n k) / 18446744073709551616
def ps (n k : Nat) : Nat := (wrd n k + lw k + ca n k) % 18446744073709551616
theorem ps_lt (n k : Nat) : ps n k < 18446744073709551616 := Nat.mod_lt _ (by decide)
theorem ca_le (n k : Nat) : ca n k ≤ 1 := by
  induction k with
  | zero => exact Nat.zero_le _
  | succ k ih => have h1 := wrd_lt n k; have h2 := lw_lt k; unfold ca; omega
def backN (n : Nat) : Nat := ps n 0 + ps n 1 * 18446744073709551616 + ps n 2 * 340282366920938463463374607431768211456 + ps n 3 * 6277101735386680763835789423207666416102355444464034512896
theorem ca_step (n k : Nat) : wrd n k + lw k + ca n k = ca n (k + 1) * 18446744073709551616 + ps n k := by
  have e : ca n (k + 1) = (wrd n k + lw k + ca n k) / 18446744073709551616 := rfl
  rw [e]; unfold ps; omega
theorem back_eq (n : Nat) (h : n < 2 ^ 256) : n + L = ca n 4 * 115792089237316195423570985008687907853269984665640564039457584007913129639936 + backN n := by
  have e := of4 n h
  have s0 := ca_step n 0
  have s1 := ca_step n 1
  have s2 := ca_step n 2
  have s3 := ca_step n 3
  have z0 : ca n 0 = 0 := rfl
  simp only [lw] at s0 s1 s2 s3
  unfold backN
  rw [L_is]
  simp only [Nat.reduceAdd] at *
  omega
theorem back_words (n : Nat) : wrd (backN n) 0 = ps n 0 ∧ wrd (backN n) 1 = ps n 1 ∧ wrd (backN n) 2 = ps n 2 ∧ wrd (backN n) 3 = ps n 3 ∧ backN n < 2 ^ 256 :=
  mk4 _ _ _ _ (ps_lt ..) (ps_lt ..) (ps_lt ..) (ps_lt ..) _ rfl

/-! ### a word is brought down -/
def guessN (top next : Nat) : Nat := if top / 1152921504606846976 > 0 then 18446744073709551615 else top * 16 + next / 1152921504606846976
theorem guess_lt (top next : Nat) (h : next < 18446744073709551616) : guessN top next < 18446744073709551616 := by unfold guessN; split <;> omega
/-- the lower four words, a word brought down -/
def down (n x : Nat) : Nat := x + n % 6277101735386680763835789423207666416102355444464034512896 * 18446744073709551616
theorem down_words (n x : Nat) (hx : x < 18446744073709551616) : wrd (down n x) 0 = x ∧ wrd (down n x) 1 = wrd n 0 ∧ wrd (down n x) 2 = wrd n 1 ∧ wrd (down n x) 3 = wrd n 2 ∧ down n x < 2 ^ 256 := by
  apply mk4 _ _ _ _ hx (wrd_lt ..) (wrd_lt ..) (wrd_lt ..)
  unfold down
  have h1 : n / 340282366920938463463374607431768211456 = n / 18446744073709551616 / 18446744073709551616 := by rw [Nat.div_div_eq_div_mul]
  rw [wrd0, wrd1, wrd2, h1]
  omega
def restN (n x : Nat) : Nat :=
  let d := down n x
  let q := guessN (wrd n 3) (wrd n 2)
  if wrd n 3 < offO d q then backN (offN d q) else offN d q
theorem top_near (n q : Nat) (n0 n1 n2 n3 x : Nat) (hn : n < L) (hx : x < 18446744073709551616) (w0 : n0 < 18446744073709551616) (w1 : n1 < 18446744073709551616) (w2 : n2 < 18446744073709551616)
    (e4 : n = n0 + n1 * 18446744073709551616 + n2 * 340282366920938463463374607431768211456 + n3 * 6277101735386680763835789423207666416102355444464034512896) (hq : guessN n3 n2 = q) :
    q * L < n * 18446744073709551616 + x + L ∧ n * 18446744073709551616 + x < q * L + L := by
  unfold guessN at hq
  unfold L at *
  split at hq
  · subst hq; omega
  · have hk : n2 = n2 / 1152921504606846976 * 1152921504606846976 + n2 % 1152921504606846976 := by omega
    have hl : n2 % 1152921504606846976 < 1152921504606846976 := by omega
    have hm : n2 / 1152921504606846976 < 16 := by omega
    generalize n2 / 1152921504606846976 = a at *
    generalize n2 % 1152921504606846976 = b at *
    have hn3 : n3 < 1152921504606846976 := by omega
    subst hk
    subst hq
    subst e4
    clear hn
    omega
theorem rest_is (n x : Nat) (hn : n < L) (hx : x < 18446744073709551616) : restN n x = (n * 18446744073709551616 + x) % L := by
  have h256 : n < 2 ^ 256 := Nat.lt_trans hn (by decide)
  have e4 := of4 n h256
  obtain ⟨d0, d1, d2, d3, dl⟩ := down_words n x hx
  have eq := off_eq (down n x) (guessN (wrd n 3) (wrd n 2)) dl
  obtain ⟨_, _, _, _, ol⟩ := off_words (down n x) (guessN (wrd n 3) (wrd n 2))
  have eb := back_eq (offN (down n x) (guessN (wrd n 3) (wrd n 2))) ol
  obtain ⟨_, _, _, _, bl'⟩ := back_words (offN (down n x) (guessN (wrd n 3) (wrd n 2)))
  have ed := of4 _ dl
  rw [d0, d1, d2, d3] at ed
  have tn := top_near n _ _ _ _ _ x hn hx (wrd_lt n 0) (wrd_lt n 1) (wrd_lt n 2) e4 rfl
  have p256 : (2 : Nat) ^ 256 = 115792089237316195423570985008687907853269984665640564039457584007913129639936 := by decide
  have hN : n * 18446744073709551616 + x = wrd n 3 * 115792089237316195423570985008687907853269984665640564039457584007913129639936 + down n x := by omega
  rw [p256] at ol bl'
  obtain ⟨N, hNe⟩ : ∃ N, N = n * 18446744073709551616 + x := ⟨_, rfl⟩
  rw [← hNe] at hN tn ⊢
  clear hNe
  unfold restN
  simp only []
  generalize hq : guessN (wrd n 3) (wrd n 2) = q at *
  generalize offN (down n x) q = r at *
  generalize offO (down n x) q = o at *
  generalize backN r = b at *
  generalize ca r 4 = cc at *
  generalize down n x = d at *
  generalize wrd n 3 = n3 at *
  clear p256 d0 d1 d2 d3 dl h256 ed e4 hn hx hq
  have hL : L = 7237005577332262213973186563042994240857116359379907606001950938285454250989 := rfl
  obtain ⟨t1, t2⟩ := tn
  generalize hP : q * L = P at *
  split
  · rename_i hlt
    have h1 : o = n3 + 1 := by omega
    have h2 : cc = 1 := by omega
    have h3 : N + L = P + b := by omega
    have h4 : b < L := by omega
    have h5 : 1 ≤ q := by
      rcases Nat.eq_zero_or_pos q with h0 | h0
      · rw [h0, Nat.zero_mul] at hP; omega
      · exact h0
    obtain ⟨k, rfl⟩ : ∃ k, q = k + 1 := ⟨q - 1, by omega⟩
    rw [Nat.add_mul, Nat.one_mul] at hP
    have h6 : N = L * k + b := by rw [Nat.mul_comm]; omega
    rw [h6, Nat.mul_add_mod, Nat.mod_eq_of_lt h4]
  · rename_i hlt
    have h1 : o = n3 := by omega
    have h3 : N = P + r := by omega
    have h4 : r < L := by omega
    rw [h3, ← hP, Nat.mul_comm, Nat.mul_add_mod, Nat.mod_eq_of_lt h4]
theorem mod_lt (n : Nat) : n % L < L := Nat.mod_lt _ (by decide)
theorem lt256 (n : Nat) (h : n < L) : n < 2 ^ 256 := Nat.lt_trans h (by decide)

/-! ### words from the highest on -/
theorem wrd_split (n j : Nat) : n / 2 ^ (64 * j) = n / 2 ^ (64 * (j + 1)) * 18446744073709551616 + wrd n j := by
  have e : (2 : Nat) ^ (64 * (j + 1)) = 2 ^ (64 * j) * 18446744073709551616 := by rw [show 64 * (j + 1) = 64 * j + 64 by omega, Nat.pow_add]
  rw [e, ← Nat.div_div_eq_div_mul]
  unfold wrd
  omega
theorem rest_step (n j : Nat) : restN (n / 2 ^ (64 * (j + 1)) % L) (wrd n j) = n / 2 ^ (64 * j) % L := by
  rw [rest_is _ _ (mod_lt _) (wrd_lt _ _), wrd_split n j]
  generalize n / 2 ^ (64 * (j + 1)) = a
  rw [Nat.add_mod, Nat.mul_mod, Nat.mod_mod, ← Nat.mul_mod, ← Nat.add_mod]

/-! ### bytes, the lowest first -/
def leN (f : Nat → Nat) : Nat → Nat
  | 0 => 0
  | k + 1 => leN f k + f k * 2 ^ (8 * k)
theorem leN_lt (f : Nat → Nat) (hf : ∀ i, f i < 256) (k : Nat) : leN f k < 2 ^ (8 * k) := by
  induction k with
  | zero => exact Nat.zero_lt_one
  | succ k ih =>
    have e : (2 : Nat) ^ (8 * (k + 1)) = 2 ^ (8 * k) * 256 := by rw [show 8 * (k + 1) = 8 * k + 8 by omega, Nat.pow_add]
    have h := hf k
    have := Nat.mul_le_mul_right (2 ^ (8 * k)) (show f k + 1 ≤ 256 by omega)
    rw [Nat.add_mul, Nat.one_mul] at this
    rw [leN, e]; omega
theorem leN_byt (n k : Nat) : leN (byt n) k = n % 2 ^ (8 * k) := by
  induction k with
  | zero => rw [leN, show 8 * 0 = 0 by rfl, Nat.pow_zero, Nat.mod_one]
  | succ k ih =>
    have e : (2 : Nat) ^ (8 * (k + 1)) = 2 ^ (8 * k) * 256 := by rw [show 8 * (k + 1) = 8 * k + 8 by omega, Nat.pow_add]
    rw [leN, ih, e, Nat.mod_mul]
    unfold byt
    rw [Nat.mul_comm (2 ^ (8 * k))]
theorem leN_congr (f g : Nat → Nat) (k : Nat) (h : ∀ i, i < k → f i = g i) : leN f k = leN g k := by
  induction k with
  | zero => rfl
  | succ k ih => rw [leN, leN, ih (fun i hi => h i (by omega)), h k (by omega)]
/-- bytes tell the number -/
theorem byt_ext (n : Nat) : ∀ x y : Nat, x < 2 ^ (8 * n) → y < 2 ^ (8 * n) → (∀ i, i < n → byt x i = byt y i) → x = y := by
  intro x y hx hy h
  have h1 := leN_byt x n
  have h2 := leN_byt y n
  rw [Nat.mod_eq_of_lt hx] at h1
  rw [Nat.mod_eq_of_lt hy] at h2
  rw [← h1, ← h2]
  exact leN_congr _ _ _ h
theorem byt_leN (f : Nat → Nat) (hf : ∀ i, f i < 256) (k i : Nat) (h : i < k) : byt (leN f k) i = f i := by
  induction k with
  | zero => omega
  | succ k ih =>
    rw [leN]
    unfold byt at *
    by_cases hik : i = k
    · subst hik
      rw [Nat.add_mul_div_right _ _ (Nat.pow_pos (by decide)), Nat.div_eq_of_lt (leN_lt f hf i), Nat.zero_add, Nat.mod_eq_of_lt (hf i)]
    · have hlt : i < k := by omega
      have e : (2 : Nat) ^ (8 * k) = 2 ^ (8 * i) * (2 ^ (8 * (k - i - 1)) * 256) := by
        rw [Nat.mul_comm (2 ^ (8 * (k - i - 1))), show (256 : Nat) = 2 ^ 8 by rfl, ← Nat.pow_add, ← Nat.pow_add]; congr 1; omega
      rw [e, ← Nat.mul_assoc, Nat.mul_comm (f k), Nat.mul_assoc, Nat.add_mul_div_left _ _ (Nat.pow_pos (by decide)), ← Nat.mul_assoc, Nat.add_mul_mod_self_right]
      exact ih hlt
/-- a byte put into its word -/
theorem fill_same (f : Nat → Nat) (hf : ∀ i, f i < 256) (k : Nat) : wrd (leN f (k + 1)) (k / 8) = wrd (leN f k) (k / 8) + f k * 2 ^ (8 * (k % 8)) ∧ wrd (leN f k) (k / 8) < 2 ^ (8 * (k % 8)) := by
  have hl := leN_lt f hf k
  have hk := hf k
  have e : (2 : Nat) ^ (8 * k) = 2 ^ (64 * (k / 8)) * 2 ^ (8 * (k % 8)) := by rw [← Nat.pow_add]; congr 1; omega
  have hd : leN f k / 2 ^ (64 * (k / 8)) < 2 ^ (8 * (k % 8)) := by rw [Nat.div_lt_iff_lt_mul (Nat.pow_pos (by decide)), Nat.mul_comm, ← e]; exact hl
  have hb : (2 : Nat) ^ (8 * (k % 8)) * 256 ≤ 18446744073709551616 := by
    have : (2 : Nat) ^ (8 * (k % 8)) * 256 = 2 ^ (8 * (k % 8) + 8) := by rw [Nat.pow_add]
    rw [this, show (18446744073709551616 : Nat) = 2 ^ 64 by rfl]
    exact Nat.pow_le_pow_right (by decide) (by omega)
  have hw : wrd (leN f k) (k / 8) = leN f k / 2 ^ (64 * (k / 8)) := by unfold wrd; exact Nat.mod_eq_of_lt (by omega)
  refine ⟨?_, by rw [hw]; exact hd⟩
  have h2 : leN f (k + 1) / 2 ^ (64 * (k / 8)) = leN f k / 2 ^ (64 * (k / 8)) + f k * 2 ^ (8 * (k % 8)) := by
    rw [leN, e, ← Nat.mul_assoc, Nat.mul_comm (f k), Nat.mul_assoc, Nat.add_mul_div_left _ _ (Nat.pow_pos (by decide))]
  rw [hw]
  unfold wrd
  rw [h2]
  apply Nat.mod_eq_of_lt
  have := Nat.mul_le_mul_right (2 ^ (8 * (k % 8))) (show f k + 1 ≤ 256 by omega)
  rw [Nat.add_mul, Nat.one_mul, Nat.mul_comm 256] at this
  omega
theorem fill_other (f : Nat → Nat) (hf : ∀ i, f i < 256) (k j : Nat) (h : j ≠ k / 8) : wrd (leN f (k + 1)) j = wrd (leN f k) j := by
  have hl := leN_lt f hf k
  have hl1 := leN_lt f hf (k + 1)
  unfold wrd
  by_cases hj : j < k / 8
  · have e : (2 : Nat) ^ (8 * k) = 2 ^ (64 * j) * (2 ^ (8 * k - 64 * j - 64) * 18446744073709551616) := by
      rw [show (18446744073709551616 : Nat) = 2 ^ 64 by rfl, ← Nat.pow_add, ← Nat.pow_add]; congr 1; omega
    rw [leN, e, ← Nat.mul_assoc, Nat.mul_comm (f k), Nat.mul_assoc, Nat.add_mul_div_left _ _ (Nat.pow_pos (by decide)), ← Nat.mul_assoc, Nat.add_mul_mod_self_right]
  · have h1 : (2 : Nat) ^ (8 * k) ≤ 2 ^ (64 * j) := Nat.pow_le_pow_right (by decide) (by omega)
    have h2 : (2 : Nat) ^ (8 * (k + 1)) ≤ 2 ^ (64 * j) := Nat.pow_le_pow_right (by decide) (by omega)
    rw [Nat.div_eq_of_lt (by omega), Nat.div_eq_of_lt (by omega)]
end Sc
end Go.Proofs.YtmnlidfalhjghaaGreatDoor
