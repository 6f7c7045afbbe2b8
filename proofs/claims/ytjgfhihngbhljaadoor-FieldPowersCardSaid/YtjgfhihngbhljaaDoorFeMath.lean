/- field: what the program's elements stand for: powers, what is inverted, roots. -/
import Derived.Test.YtjgfhihngbhljaaDoorFeRootW
namespace Go.Proofs.YtjgfhihngbhljaaDoor
open Fe Num

/-- r is right, and stands for a's number to the power k -/
structure Pw (a r : Fe) (k : Nat) : Prop where
  ri : Right r
  mi : Fe.m r = Fe.m a ^ k % P
theorem Pw.one {a : Fe} (h : Right a) : Pw a a 1 := ⟨h, by rw [Nat.pow_one, Nat.mod_eq_of_lt (m_lt a)]⟩
theorem Pw.mul {a r s : Fe} {k j : Nat} (h : Pw a r k) (g : Pw a s j) : Pw a (mulF r s) (k + j) :=
  ⟨mul_right _ _, by rw [mul_m h.ri g.ri, h.mi, g.mi, ← Nat.mul_mod, Nat.pow_add]⟩
theorem Pw.sq {a r : Fe} {k : Nat} (h : Pw a r k) : Pw a (sqF r) (2 * k) :=
  ⟨sq_right _, by rw [sq_m h.ri, h.mi, ← Nat.mul_mod, ← Nat.pow_add, show k + k = 2 * k by omega]⟩
theorem Pw.sqN {a r : Fe} {k : Nat} (h : Pw a r k) (n : Nat) : Pw a (sqN n r) (2 ^ n * k) := by
  induction n with
  | zero => rw [Nat.pow_zero, Nat.one_mul]; exact h
  | succ n ih => have := ih.sq; rw [← Nat.mul_assoc, ← Nat.pow_succ'] at this; exact this
theorem Pw.step {a r s : Fe} {k j : Nat} (h : Pw a r k) (g : Pw a s j) (n : Nat) : Pw a (stepF n r s) (2 ^ n * k + j) := (h.sqN n).mul g
theorem Pw.to {a r : Fe} {k j : Nat} (h : Pw a r k) (e : k = j) : Pw a r j := e ▸ h
theorem ones_pw {a : Fe} (h : Right a) : Pw a (ones10 a) (2 ^ 250 - 1) := by
  have p1 : Pw a (ones1 a) 3 := ((Pw.one h).step (Pw.one h) 1).to (by decide)
  have p2 : Pw a (ones2 a) 15 := (p1.step p1 2).to (by decide)
  have p3 : Pw a (ones3 a) 31 := (p2.step (Pw.one h) 1).to (by decide)
  have p4 : Pw a (ones4 a) 1023 := (p3.step p3 5).to (by decide)
  have p5 : Pw a (ones5 a) (2 ^ 20 - 1) := (p4.step p4 10).to (by decide)
  have p6 : Pw a (ones6 a) (2 ^ 40 - 1) := (p5.step p5 20).to (by decide)
  have p7 : Pw a (ones7 a) (2 ^ 50 - 1) := (p6.step p4 10).to (by decide)
  have p8 : Pw a (ones8 a) (2 ^ 100 - 1) := (p7.step p7 50).to (by decide)
  have p9 : Pw a (ones9 a) (2 ^ 200 - 1) := (p8.step p8 100).to (by decide)
  exact (p9.step p7 50).to (by decide)
theorem inv_pw {a : Fe} (h : Right a) : Pw a (invF a) eInv := by
  have p := Pw.one h
  have e8 : Pw a (sqF (sqF (sqF a))) 8 := p.sq.sq.sq
  have e11 : Pw a (mulF (sqF (sqF (sqF a))) (mulF (sqF a) a)) 11 := e8.mul (p.sq.mul p)
  exact ((ones_pw h).step e11 5).to (by decide +kernel)
theorem inv_right (a : Fe) : Right (invF a) := mul_right _ _
theorem inv_m {a : Fe} (h : Right a) : Fe.m a * Fe.m (invF a) % P = if Fe.m a = 0 then 0 else 1 := by
  rw [(inv_pw h).mi, inv_is, Nat.mod_eq_of_lt (m_lt a)]
theorem step_right (n : Nat) (p b : Fe) : Right (stepF n p b) := mul_right _ _
/-- a root's guess -/
theorem guess_m {u v : Fe} (hu : Right u) (hv : Right v) : Fe.m (guessF u v) = gN (Fe.m u) (Fe.m v) % P := by
  have hc : Fe.m (mulF (sqF v) v) = Fe.m v ^ 3 % P := ((Pw.one hv).sq.mul (Pw.one hv)).mi
  have h7 : Fe.m (mulF (sqF (mulF (sqF v) v)) v) = Fe.m v ^ 7 % P := ((((Pw.one hv).sq.mul (Pw.one hv)).sq).mul (Pw.one hv)).mi
  have hb : Fe.m (mulF u (mulF (sqF (mulF (sqF v) v)) v)) = Fe.m u * Fe.m v ^ 7 % P := by rw [mul_m hu (mul_right _ _), h7, Nat.mul_mod_mod]
  have hr := mul_right u (mulF (sqF (mulF (sqF v) v)) v)
  have hpw : Fe.m (stepF 2 (ones10 (mulF u (mulF (sqF (mulF (sqF v) v)) v))) (mulF u (mulF (sqF (mulF (sqF v) v)) v))) = (Fe.m u * Fe.m v ^ 7) ^ eEighth % P := by
    rw [(((ones_pw hr).step (Pw.one hr) 2).to (show 2 ^ 2 * (2 ^ 250 - 1) + 1 = eEighth by decide +kernel)).mi, hb, ← Nat.pow_mod]
  unfold guessF
  rw [mul_m (mul_right _ _) (step_right _ _ _), mul_m hu (mul_right _ _), hc, hpw]
  unfold gN
  rw [Nat.mul_mod_mod, Nat.mod_mul_mod]
  exact cong_mul (by rw [Nat.mul_mod_mod]) rfl
theorem guess_right (u v : Fe) : Right (guessF u v) := mul_right _ _
theorem rootI_right : Right rootI := by constructor <;> decide
theorem rootI_m : Fe.m rootI = i0 := by decide +kernel
/-- whether an element fits -/
def fitsF (r u v : Fe) : Bool := decide (Fe.m (mulF (sqF r) v) = Fe.m u)
theorem fitsF_is {r u v : Fe} (hr : Right r) (hv : Right v) : fitsF r u v = true ↔ Fe.m r * Fe.m r * Fe.m v % P = Fe.m u := by
  unfold fitsF
  rw [decide_eq_true_iff, mul_m (sq_right _) hv, sq_m hr, Nat.mod_mul_mod]
def evenF (r : Fe) : Fe := if Fe.m r % 2 = 1 then negF r else r
def rootF (u v : Fe) : Fe × Bool :=
  if fitsF (guessF u v) u v = true then (evenF (guessF u v), true)
  else if fitsF (mulF (guessF u v) rootI) u v = true then (evenF (mulF (guessF u v) rootI), true)
  else (zeroF, false)
theorem neg_m {a : Fe} (h : Right a) : Fe.m (negF a) = (P - Fe.m a) % P := by
  have hz : Right zeroF := by constructor <;> decide
  have e : Fe.m zeroF = 0 := by decide +kernel
  unfold negF
  rw [sub_m hz h, e, Nat.zero_add]
theorem even_m {r : Fe} (h : Right r) : Right (evenF r) ∧ Fe.m (evenF r) % 2 = 0 ∧ ∀ v : Nat, Fe.m (evenF r) * Fe.m (evenF r) * v % P = Fe.m r * Fe.m r * v % P := by
  unfold evenF
  have hl := m_lt r
  by_cases ho : Fe.m r % 2 = 1
  · rw [if_pos ho]
    have hm := neg_m h
    rw [Nat.mod_eq_of_lt (by omega)] at hm
    refine ⟨neg_right _, ?_, fun v => ?_⟩
    · rw [hm]; unfold P at *; omega
    · rw [hm]
      obtain ⟨d, hd⟩ : ∃ d, P = Fe.m r + d := ⟨P - Fe.m r, by omega⟩
      have e : (P - Fe.m r) * (P - Fe.m r) * v + P * (2 * Fe.m r * v) = Fe.m r * Fe.m r * v + P * (P * v) := by
        rw [hd, Nat.add_sub_cancel_left]; grind
      have := congrArg (· % P) e
      simpa [Nat.add_mul_mod_self_left] using this
  · rw [if_neg ho]
    exact ⟨h, by omega, fun _ => rfl⟩
theorem root_says {u v : Fe} (hv : Right v) (h : (rootF u v).2 = true) : Right (rootF u v).1 ∧ Fe.m (rootF u v).1 % 2 = 0 ∧ Fe.m (rootF u v).1 * Fe.m (rootF u v).1 * Fe.m v % P = Fe.m u := by
  unfold rootF at *
  by_cases h1 : fitsF (guessF u v) u v = true
  · rw [if_pos h1] at h ⊢
    have := even_m (guess_right u v)
    exact ⟨this.1, this.2.1, (this.2.2 _).trans ((fitsF_is (guess_right u v) hv).1 h1)⟩
  · rw [if_neg h1] at h ⊢
    by_cases h2 : fitsF (mulF (guessF u v) rootI) u v = true
    · rw [if_pos h2] at h ⊢
      have := even_m (mul_right _ _ : Right (mulF (guessF u v) rootI))
      exact ⟨this.1, this.2.1, (this.2.2 _).trans ((fitsF_is (mul_right _ _) hv).1 h2)⟩
    · rw [if_neg h2] at h; cases h
theorem fitsN_mod {r u v : Nat} : FitsN (r % P) u v ↔ FitsN r u v := by
  unfold FitsN
  rw [show r % P * (r % P) * v % P = r * r * v % P from by rw [Nat.mul_mod, ← Nat.mul_mod r r, ← Nat.mul_mod]]
theorem root_true {u v : Fe} (hu : Right u) (hv : Right v) (h : FitsN (gN (Fe.m u) (Fe.m v)) (Fe.m u) (Fe.m v) ∨ FitsN (gN (Fe.m u) (Fe.m v) * i0) (Fe.m u) (Fe.m v)) : (rootF u v).2 = true := by
  have hul := Nat.mod_eq_of_lt (m_lt u)
  unfold rootF
  by_cases h1 : fitsF (guessF u v) u v = true
  · rw [if_pos h1]
  · rw [if_neg h1]
    by_cases h2 : fitsF (mulF (guessF u v) rootI) u v = true
    · rw [if_pos h2]
    · exfalso
      rcases h with h | h
      · apply h1
        rw [fitsF_is (guess_right u v) hv, guess_m hu hv]
        have h2 := fitsN_mod.2 h
        unfold FitsN at h2
        rw [hul] at h2
        exact h2
      · apply h2
        rw [fitsF_is (mul_right _ _) hv, mul_m (guess_right u v) rootI_right, guess_m hu hv, rootI_m, Nat.mod_mul_mod]
        have h3 := fitsN_mod.2 h
        unfold FitsN at h3
        rw [hul] at h3
        exact h3
theorem root_any_true {u v : Fe} {t : Nat} (hu : Right u) (hv : Right v) (h : t * t * Fe.m v % P = Fe.m u) : (rootF u v).2 = true :=
  root_true hu hv (Fe.fits_any (by rw [h, Nat.mod_eq_of_lt (m_lt u)]))
def fe2 : Fe := ⟨2, 0, 0, 0, 0⟩
def fe4 : Fe := ⟨4, 0, 0, 0, 0⟩
theorem fe2_right : Right fe2 := by constructor <;> decide
theorem fe4_right : Right fe4 := by constructor <;> decide
theorem one_right : Right oneF := by constructor <;> decide
theorem zero_right : Right zeroF := by constructor <;> decide
theorem fe2_m : Fe.m fe2 = 2 := by decide +kernel
theorem fe4_m : Fe.m fe4 = 4 := by decide +kernel
theorem one_m : Fe.m oneF = 1 := by decide +kernel
theorem zero_m : Fe.m zeroF = 0 := by decide +kernel
theorem root4 : (rootF fe4 oneF).2 = true := root_any_true (t := 2) fe4_right one_right (by rw [fe4_m, one_m]; decide +kernel)
theorem root4_m : Fe.m (rootF fe4 oneF).1 = 2 := by
  obtain ⟨hr, he, hm⟩ := root_says one_right root4
  rw [fe4_m, one_m, Nat.mul_one] at hm
  have h := roots_two (v := 1) (r := Fe.m (rootF fe4 oneF).1) (a := 2) (by decide +kernel) (m_lt _) (by decide +kernel) (by rw [Nat.mul_one, hm]; decide +kernel)
  rcases h with h | h
  · exact h
  · exfalso
    rw [h] at he
    exact absurd he (by decide +kernel)
theorem root2 : (rootF fe2 oneF).2 = false := by
  rw [Bool.eq_false_iff]
  intro h
  obtain ⟨hr, he, hm⟩ := root_says one_right h
  rw [fe2_m, one_m, Nat.mul_one] at hm
  have h1 := square_half (x := 2) (s := Fe.m (rootF fe2 oneF).1) (by decide +kernel) (by rw [hm]; decide +kernel)
  rw [two_half] at h1
  exact absurd h1 (by decide +kernel)
theorem zero_pow_mod (x n : Nat) (hx : x = 0) (h : 0 < n) : x ^ n % P = 0 := by rw [hx, Nat.zero_pow h, Nat.zero_mod]
theorem eInv_pos : 0 < eInv := by decide +kernel
theorem inv0_m : Fe.m (invF zeroF) = 0 := (inv_pw zero_right).mi.trans (zero_pow_mod _ _ zero_m eInv_pos)
theorem negone_m : Fe.m (negF oneF) = 57896044618658097711785492504343953926634992332820282019728792003956564819948 := by
  rw [neg_m one_right, one_m]; decide +kernel
end Go.Proofs.YtjgfhihngbhljaaDoor
