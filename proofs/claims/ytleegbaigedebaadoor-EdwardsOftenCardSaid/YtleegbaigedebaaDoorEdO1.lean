/- texts merged, part 1: XEdFrac XEdOftenM XCopy XScMulAdd XEdLawOften -/
import Derived.Test.YtleegbaigedebaaDoorEdB3
import Derived.Test.YtleegbaigedebaaDoorEdB6
import Derived.Test.YtleegbaigedebaaDoorEdB1
import Derived.Test.YtleegbaigedebaaDoorEdB5
import Derived.Test.YtleegbaigedebaaDoorEdB4
import Derived.Deep.Cut
/- Pairs as fractions with one denominator, their sums; as many of one, bit by bit; the base's order. No program is named here. -/
namespace Go.Proofs.YtleegbaigedebaaDoor.Ed
open Num

structure Fr where
  X : F
  Y : F
  Z : F
structure FrIs (s : Fr) (p : Pr) : Prop where
  on : On p
  z : s.Z ≠ 0
  x : s.X = s.Z * p.x
  y : s.Y = s.Z * p.y
def frAdd (s t : Fr) : Fr :=
  ⟨(s.Z * t.Z) * (((s.Z * t.Z) * (s.Z * t.Z) - d * ((s.X * t.X) * (s.Y * t.Y))) * (s.X * t.Y + t.X * s.Y)),
   (s.Z * t.Z) * (((s.Z * t.Z) * (s.Z * t.Z) + d * ((s.X * t.X) * (s.Y * t.Y))) * (s.X * t.X + s.Y * t.Y)),
   ((s.Z * t.Z) * (s.Z * t.Z) - d * ((s.X * t.X) * (s.Y * t.Y))) * ((s.Z * t.Z) * (s.Z * t.Z) + d * ((s.X * t.X) * (s.Y * t.Y)))⟩
section
variable {n : Nat} [NeZero n]
theorem f_1 (d X Y Z x y X' Y' Z' x' y' : Fin n) (hX : X = Z * x) (hY : Y = Z * y) (hX' : X' = Z' * x') (hY' : Y' = Z' * y') :
    (Z * Z') * (Z * Z') - d * ((X * X') * (Y * Y')) = (Z * Z') * (Z * Z') * (1 - d * (x*x'*y*y')) ∧ (Z * Z') * (Z * Z') + d * ((X * X') * (Y * Y')) = (Z * Z') * (Z * Z') * (1 + d * (x*x'*y*y')) ∧ X * Y' + X' * Y = (Z * Z') * (x*y' + x'*y) ∧ X * X' + Y * Y' = (Z * Z') * (y*y' + x*x') := by grind
theorem f_2 (A m l c x : Fin n) (h : m * x = c) : A * ((A * A * l) * (A * c)) = (A * A * l) * (A * A * m) * x := by grind
theorem f_3 (A m l c y : Fin n) (h : l * y = c) : A * ((A * A * m) * (A * c)) = (A * A * l) * (A * A * m) * y := by grind
end
theorem frAddIs {s t : Fr} {p q : Pr} (h : FrIs s p) (k : FrIs t q) : FrIs (frAdd s t) (add p q) := by
  obtain ⟨h1, h2, h3, h4⟩ := f_1 d _ _ _ _ _ _ _ _ _ _ h.x h.y k.x k.y
  have nz := mul_ne h.z k.z
  have n1 := mul_ne (mul_ne nz nz) (minus_ne h.on k.on)
  have n2 := mul_ne (mul_ne nz nz) (plus_ne h.on k.on)
  have ax := add_x h.on k.on
  have ay := add_y h.on k.on
  unfold tt at n1 n2 ax ay
  refine ⟨add_on h.on k.on, ?_, ?_, ?_⟩
  · unfold frAdd; dsimp only; rw [h1, h2]; exact mul_ne n1 n2
  · unfold frAdd; dsimp only; rw [h1, h2, h3]; exact f_2 _ _ _ _ _ ax
  · unfold frAdd; dsimp only; rw [h1, h2, h4]; exact f_3 _ _ _ _ _ ay
theorem frEq {s t : Fr} {p q : Pr} (h : FrIs s p) (k : FrIs t q) : (s.X * t.Z = t.X * s.Z ∧ s.Y * t.Z = t.Y * s.Z) ↔ p = q := by
  rw [e_9 h.x k.x, e_9 h.y k.y]
  have hz := mul_ne h.z k.z
  exact ⟨fun ⟨h1, h2⟩ => ext (cancel hz h1) (cancel hz h2), fun e => by rw [e]; exact ⟨rfl, rfl⟩⟩
def numH (l : List Bool) : Nat := l.foldl (fun n b => 2 * n + b.toNat) 0
theorem numH_snoc (l : List Bool) (b : Bool) : numH (l ++ [b]) = 2 * numH l + b.toNat := by simp [numH]
def ladF (p : Fr) (l : List Bool) : Fr := l.foldl (fun s b => if b then frAdd (frAdd s s) p else frAdd s s) ⟨0, 1, 1⟩
theorem zeroFr : FrIs ⟨0, 1, 1⟩ zero := ⟨zero_on, one_ne, e_7.1, e_7.2.1⟩
theorem nmul_dbl {p : Pr} (hp : On p) (k : Nat) : add (nmul k p) (nmul k p) = nmul (2 * k) p := by rw [Nat.two_mul, nmul_add hp]
theorem ladIs {s : Fr} {p : Pr} (h : FrIs s p) (l : List Bool) : FrIs (ladF s l) (nmul (numH l) p) := by
  have gen : ∀ (l : List Bool) (t : Fr) (k : Nat), FrIs t (nmul k p) → FrIs (l.foldl (fun s' b => if b then frAdd (frAdd s' s') s else frAdd s' s') t) (nmul (l.foldl (fun n b => 2 * n + b.toNat) k) p) := by
    intro l
    induction l with
    | nil => intro t k ht; exact ht
    | cons b r ih =>
      intro t k ht
      have h2 := frAddIs ht ht
      rw [nmul_dbl h.on] at h2
      cases b
      · exact ih _ _ (by simpa using h2)
      · refine ih _ _ ?_
        have h3 := frAddIs h2 h
        exact h3
  exact gen l ⟨0, 1, 1⟩ 0 zeroFr

structure N3 where
  x : Nat
  y : Nat
  z : Nat
def N3.f (a : N3) : Fr := ⟨Fin.ofNat _ a.x, Fin.ofNat _ a.y, Fin.ofNat _ a.z⟩
def force {α : Type} (n : Nat) (k : Nat → α) : α := Nat.rec (k 0) (fun m _ => k (m + 1)) n
theorem force_is {α : Type} (n : Nat) (k : Nat → α) : force n k = k n := by cases n <;> rfl
def addN (s t : N3) (k : N3 → N3) : N3 :=
  force (s.z * t.z % Fe.P) fun a => force (a * a % Fe.P) fun b => force (s.x * t.x % Fe.P) fun c => force (s.y * t.y % Fe.P) fun e =>
  force (dN * (c * e) % Fe.P) fun f => force (b + (Fe.P - f)) fun l => force (b + f) fun m => force (a * (l * (s.x * t.y + t.x * s.y)) % Fe.P) fun x =>
  force (a * (m * (c + e)) % Fe.P) fun y => force (l * m % Fe.P) fun z => k ⟨x, y, z⟩
def ladN (p : N3) : List Bool → N3 → N3
  | [], s => s
  | b :: r, s => addN s s fun s2 => if b then addN s2 p (ladN p r) else ladN p r s2
theorem ofNat_mod (a : Nat) : (Fin.ofNat Fe.P (a % Fe.P)) = Fin.ofNat Fe.P a := Fin.ext (by simp)
theorem ofNat_mul (a b : Nat) : (Fin.ofNat Fe.P (a * b)) = Fin.ofNat Fe.P a * Fin.ofNat Fe.P b := Fin.ext (by simp [Fin.val_mul])
theorem ofNat_add (a b : Nat) : (Fin.ofNat Fe.P (a + b)) = Fin.ofNat Fe.P a + Fin.ofNat Fe.P b := Fin.ext (by simp [Fin.val_add])
theorem sub_of' {n : Nat} [NeZero n] {x y z : Fin n} (h : x + y = z) : x = z - y := by grind
theorem ofNat_sub {a : Nat} (h : a < Fe.P) (b : Nat) : (Fin.ofNat Fe.P (b + (Fe.P - a))) = Fin.ofNat Fe.P b - Fin.ofNat Fe.P a := by
  apply sub_of'
  rw [← ofNat_add, show b + (Fe.P - a) + a = b + Fe.P by omega]
  exact Fin.ext (by simp)
theorem ofNat_d : Fin.ofNat Fe.P dN = d := by decide +kernel
theorem addN_is (s t : N3) (k : N3 → N3) : ∃ u, addN s t k = k u ∧ u.f = frAdd s.f t.f := by
  unfold addN
  simp only [force_is]
  refine ⟨_, rfl, ?_⟩
  have hl : dN * (s.x * t.x % Fe.P * (s.y * t.y % Fe.P)) % Fe.P < Fe.P := Nat.mod_lt _ (Nat.pos_of_ne_zero P_ne)
  unfold N3.f frAdd
  simp only [ofNat_mod, ofNat_mul, ofNat_sub hl, ofNat_add, ofNat_d]
theorem ladN_is (p : N3) : ∀ (l : List Bool) (s : N3), (ladN p l s).f = l.foldl (fun s' b => if b then frAdd (frAdd s' s') p.f else frAdd s' s') s.f := by
  intro l
  induction l with
  | nil => intro s; rfl
  | cons b r ih =>
    intro s
    obtain ⟨u, hu, hf⟩ := addN_is s s fun s2 => if b then addN s2 p (ladN p r) else ladN p r s2
    show (addN s s fun s2 => if b then addN s2 p (ladN p r) else ladN p r s2).f = _
    rw [hu]
    cases b
    · rw [List.foldl_cons, ← hf]; exact ih u
    · obtain ⟨v, hv, hg⟩ := addN_is u p (ladN p r)
      rw [List.foldl_cons, if_pos rfl, if_pos rfl, ← hf, ← hg, hv]; exact ih v
def bitsH : Nat → Nat → List Bool
  | 0, _ => []
  | k + 1, n => bitsH k (n / 2) ++ [n % 2 == 1]
theorem numH_bits : ∀ k n, n < 2 ^ k → numH (bitsH k n) = n := by
  intro k
  induction k with
  | zero => intro n h; have : n = 0 := by simpa using h
            subst this; rfl
  | succ k ih =>
    intro n h
    rw [bitsH, numH_snoc, ih (n / 2) (by rw [Nat.pow_succ] at h; omega)]
    rcases Nat.mod_two_eq_zero_or_one n with e | e <;> rw [e] <;> simp <;> omega
def Lo : Nat := 7237005577332262213973186563042994240857116359379907606001950938285454250989
def baseN : N3 := ⟨15112221349535400772501151409588531511454012693041857206046113283949847762202, 46316835694926478169428394003475163141307993866256225615783033603165251855960, 1⟩
theorem baseN_f : baseN.f = ⟨baseR.x, baseR.y, 1⟩ := by
  have h1 : Fin.ofNat Fe.P baseN.x = baseR.x := by decide +kernel
  have h2 : Fin.ofNat Fe.P baseN.y = baseR.y := by decide +kernel
  show (⟨_, _, _⟩ : Fr) = _
  rw [h1, h2]
  congr 1
theorem baseFr : FrIs ⟨baseR.x, baseR.y, 1⟩ baseR := ⟨base_on, one_ne, e_10 _ _ rfl, e_10 _ _ rfl⟩
def isZeroN (a : N3) : Bool := a.x % Fe.P == 0 && a.y % Fe.P == a.z % Fe.P
theorem order_reckoned : isZeroN (ladN baseN (bitsH 253 Lo) ⟨0, 1, 1⟩) = true := by decide +kernel
theorem order_base : nmul Lo baseR = zero := by
  have h := ladIs baseFr (bitsH 253 Lo)
  rw [numH_bits 253 Lo (by decide +kernel)] at h
  have e := ladN_is baseN (bitsH 253 Lo) ⟨0, 1, 1⟩
  rw [baseN_f] at e
  have ez : (⟨0, 1, 1⟩ : N3).f = (⟨0, 1, 1⟩ : Fr) := rfl
  rw [ez] at e
  have e2 : ladF ⟨baseR.x, baseR.y, 1⟩ (bitsH 253 Lo) = (ladN baseN (bitsH 253 Lo) ⟨0, 1, 1⟩).f := e.symm
  rw [e2] at h
  have hz := order_reckoned
  generalize ladN baseN (bitsH 253 Lo) ⟨0, 1, 1⟩ = r at *
  unfold isZeroN at hz
  simp only [Bool.and_eq_true, beq_iff_eq] at hz
  apply (frEq h zeroFr).1
  have hx : r.f.X = 0 := Fin.ext (by show r.x % Fe.P = _; rw [hz.1]; exact zero_val.symm)
  have hy : r.f.Y = r.f.Z := Fin.ext hz.2
  rw [hx, hy]
  exact ⟨f_5 _, f_6 _⟩
where
  f_5 {n : Nat} [NeZero n] (z : Fin n) : 0 * 1 = 0 * z := by grind
  f_6 {n : Nat} [NeZero n] (z : Fin n) : z * 1 = 1 * z := by grind
theorem nmul_base_mod (a : Nat) : nmul a baseR = nmul (a % Lo) baseR := by
  have h : a = Lo * (a / Lo) + a % Lo := (Nat.div_add_mod a Lo).symm
  have e : nmul a baseR = nmul (Lo * (a / Lo) + a % Lo) baseR := congrArg (fun n => nmul n baseR) h
  rw [e, nmul_add base_on, nmul_mul base_on, order_base, nmul_zero, zero_add (nmul_on base_on _)]
end Go.Proofs.YtleegbaigedebaaDoor.Ed

/- edwards' law on multiples: rows of 32 bytes, what the first byte counts, the sums. -/
namespace Go.Proofs.YtleegbaigedebaaDoor
open Go.RowKit Ow Ed
theorem own_row {w : World} {base e n g c : Nat} {xs : List Value} (h : w.ownsRow base e 1 (.slice (some ⟨g, 0, none⟩) n c) n xs) : ∃ tl, Blk w g e (xs ++ tl) ∧ base ≤ g ∧ n ≤ c ∧ c < 9223372036854775808 := by
  rcases h.2 with ⟨h0, _⟩ | ⟨g', c', cur, e1, hb, hg, hnc, hcm, hs, ht⟩
  · cases h0
  · cases e1
    refine ⟨cur.toList.drop xs.length, ?_, hb, hnc, by unfold maxLen at hcm; omega⟩
    have hl : xs.length = n := by have := h.1; omega
    have e : xs ++ cur.toList.drop xs.length = cur.toList := by
      have h2 := List.take_append_drop n cur.toList
      rw [hl]
      rw [show cur.toList.take n = xs by simpa using ht] at h2
      exact h2
    rw [e]
    unfold Blk
    rw [hg]
theorem outB_row {l : List Nat} {w w' : World} {e : Ending} (h : OutB l w e w') (hl : l.length = 32) :
    ∃ (g : Nat) (tl : List Value), e = .returned (.slice (some ⟨g, 0, none⟩) 32 32) ∧ w.grownBy w' none ∧ w.heap.size ≤ g ∧ Blk w' g 5 (l.map u8N ++ tl) := by
  obtain ⟨g, rfl, hg, hn, hk⟩ := h
  exact ⟨g, [], by rw [hl], hg, hn, by rw [List.append_nil]; exact hk⟩
theorem ownB_row {l : List Nat} {w w' : World} {e : Ending} (h : OwnB l w e w') :
    ∃ (g c : Nat) (tl : List Value), e = .returned (.slice (some ⟨g, 0, none⟩) 32 c) ∧ w.grownBy w' none ∧ w.heap.size ≤ g ∧ 32 ≤ c ∧ c < 9223372036854775808 ∧ Blk w' g 5 (l.map u8N ++ tl) := by
  obtain ⟨g, c, rfl, hg, ho⟩ := h
  obtain ⟨tl, hb, hn, h1, h2⟩ := own_row ho
  exact ⟨g, c, tl, rfl, hg, hn, h1, h2, hb⟩
theorem rowB {w : World} {g c : Nat} {T : TypeId} {l : List Nat} {tl : List Value} (h : Blk w g T (l.map u8N ++ tl)) (hl : l.length = 32) (hc : 32 ≤ c) (ht : c < 9223372036854775808) (hb : ∀ i, l.getD i 0 < 256) : Hid (BytesAt w w.heap.size (some ⟨g, 0, none⟩) c l) :=
  Lib.hid (blk_bytes h hl hc ht hb h.lt (Nat.le_refl _))
theorem nil_bytes (w : World) : BytesAt w w.heap.size none 0 [] := ⟨Nat.le_refl _, by simp, by decide, fun i => by simp, Or.inl rfl⟩
theorem one_bytes (w : World) : BytesAt (w.alloc (.cells #[u8N 1] 5)) (w.alloc (.cells #[u8N 1] 5)).heap.size (some ⟨w.heap.size, 0, none⟩) 1 [1] :=
  blk_bytes (tl := []) (Blk.new w [u8N 1] _) rfl (Nat.le_refl _) (by omega) (fun i => by cases i with
  | zero => decide
  | succ i => simp) (by simp) (Nat.le_refl _)
theorem set_row {w : World} {g x : Nat} {T : TypeId} {l : List Nat} {tl : List Value} (h : Blk w g T (l.map u8N ++ tl)) (hl : l.length = 32) : Blk (w.setCell ⟨g, 0, none⟩ (u8N x)) g T ((l.set 0 x).map u8N ++ tl) := by
  have h2 := h.set 0 (u8N x)
  rw [List.set_append_left _ _ (by simp [hl]), set_u8] at h2
  exact h2
theorem first_cell {w : World} {g : Nat} {T : TypeId} {l : List Nat} {tl : List Value} (h : Blk w g T (l.map u8N ++ tl)) (hl : l.length = 32) : w.cell? ⟨g, 0, none⟩ = some (.int .u8 ((l.getD 0 0 : Nat) : Int)) := by
  apply h.cell
  rw [List.getElem?_append_left (by simp [hl]), List.getElem?_map, List.getD_eq_getElem?_getD]
  have : l[0]? = some (l[0]'(by omega)) := List.getElem?_eq_getElem (by omega)
  rw [this]
  rfl
def evenB (v : Nat) : Nat := v - v % 2
theorem even_lt {v : Nat} (h : v < 256) : evenB v < 256 := by unfold evenB; omega
theorem odd_lt {v : Nat} (h : v < 256) : evenB v + 1 < 256 := by unfold evenB; omega
theorem clear_bit' : ∀ v : Fin 256, bits .andNot .u8 ((v.val : Nat) : Int) 1 = ((evenB v.val : Nat) : Int) := by decide +kernel
theorem set_bit' : ∀ v : Fin 256, bits .or .u8 ((evenB v.val : Nat) : Int) 1 = ((evenB v.val + 1 : Nat) : Int) := by decide +kernel
theorem clear_bit (v : Nat) (h : v < 256) : bits .andNot .u8 (v : Int) 1 = ((evenB v : Nat) : Int) := clear_bit' ⟨v, h⟩
theorem set_bit (v : Nat) (h : v < 256) : bits .or .u8 ((evenB v : Nat) : Int) 1 = ((evenB v + 1 : Nat) : Int) := set_bit' ⟨v, h⟩
theorem leN_first (f g : Nat → Nat) (h : ∀ i, 1 ≤ i → f i = g i) : ∀ n, Sc.leN f (n + 1) + g 0 = Sc.leN g (n + 1) + f 0 := by
  intro n
  induction n with
  | zero => simp [Sc.leN]; omega
  | succ n ih =>
    show Sc.leN f (n + 1) + f (n + 1) * 2 ^ (8 * (n + 1)) + g 0 = Sc.leN g (n + 1) + g (n + 1) * 2 ^ (8 * (n + 1)) + f 0
    rw [h (n + 1) (by omega)]
    omega
theorem set_get (l : List Nat) (x i : Nat) (h : 1 ≤ i) : (l.set 0 x).getD i 0 = l.getD i 0 := by
  rw [List.getD_eq_getElem?_getD, List.getD_eq_getElem?_getD, List.getElem?_set_ne (by omega)]
theorem set_get0 (l : List Nat) (x : Nat) (h : l.length = 32) : (l.set 0 x).getD 0 0 = x := by
  rw [List.getD_eq_getElem?_getD, List.getElem?_set_self (by omega)]; rfl
theorem num_set (l : List Nat) (x : Nat) (h : l.length = 32) : num (l.set 0 x) + l.getD 0 0 = num l + x := by
  unfold num
  rw [List.length_set, h]
  have := leN_first (fun i => (l.set 0 x).getD i 0) (fun i => l.getD i 0) (fun i hi => set_get l x i hi) 31
  rw [this]
  show _ + (l.set 0 x).getD 0 0 = _
  rw [set_get0 l x h]
theorem num_more (l : List Nat) (v : Nat) (h : l.length = 32) : num ((l.set 0 v).set 0 (v + 1)) = num (l.set 0 v) + 1 := by
  have h2 := num_set (l.set 0 v) (v + 1) (by rw [List.length_set]; exact h)
  rw [set_get0 l v h] at h2
  omega
def oneL' : List Nat := [1] ++ List.replicate (32 - 1) 0
def noL : List Nat := [] ++ List.replicate (32 - 0) 0
theorem oneL'_lt : ∀ i, oneL'.getD i 0 < 256 := fun i => by
  rw [List.getD_eq_getElem?_getD]
  cases e : oneL'[i]? with
  | none => decide
  | some x => exact of_decide_eq_true (List.all_eq_true.1 (by decide +kernel : oneL'.all (· < 256) = true) x (List.mem_of_getElem? e))
theorem noL_lt : ∀ i, noL.getD i 0 < 256 := fun i => by
  rw [List.getD_eq_getElem?_getD]
  cases e : noL[i]? with
  | none => decide
  | some x => exact of_decide_eq_true (List.all_eq_true.1 (by decide +kernel : noL.all (· < 256) = true) x (List.mem_of_getElem? e))
theorem num_one' : num oneL' = 1 := by decide +kernel
theorem num_no : num noL = 0 := by decide +kernel
theorem L_is : Sc.L = Lo := by decide +kernel
theorem often1 {x y s : Nat} (h : s = (x * num oneL' + y) % Sc.L) : sumPr [nmul x baseR, nmul y baseR] = nmul s baseR := by
  rw [num_one', Nat.mul_one, L_is] at h
  rw [h, ← nmul_base_mod, nmul_add base_on]
  rfl
theorem often2 {x y s : Nat} (h : s = (x * y + num noL) % Sc.L) : nmul x (nmul y baseR) = nmul s baseR := by
  rw [num_no, Nat.add_zero, L_is, Nat.mul_comm] at h
  rw [h, ← nmul_base_mod, nmul_mul base_on]
theorem often3 {n m : Nat} {r : Pr} (h : m = n + 1) : sumPr [nmul n r, r] = nmul m r := by rw [h]; rfl
end Go.Proofs.YtleegbaigedebaaDoor

/- buttresskit.CopyBytes: the bytes again, in a row of one's own. -/
namespace Go.Proofs.YtleegbaigedebaaDoor
open Go.RowKit Ow
set_option maxHeartbeats 2000000 in
theorem copyB_any (B n cap : Nat) (a : Option Addr) (l : List Nat) (w : World) (hl : l.length = n) (h0 : 0 < n) (hn : n ≤ 1000000) (hP : BytesAt w B a cap l) :
    Calls Tryd.prog 22 #[.slice a n cap] w fun e w' => ∃ g c, e = .returned (.slice (some ⟨g, 0, none⟩) n c) ∧ w.grownBy w' none ∧ w'.ownsRow w.heap.size 5 1 (.slice (some ⟨g, 0, none⟩) n c) n (l.map u8N) := by
  obtain ⟨v2, w2, hr2, ho2, hg2⟩ := append_bytes w w.heap.size 0 B cap n (.slice none 0 0) [] a l (World.ownsRow_nil w _ 5 1) hl hP (by omega) (Nat.le_refl _)
  rw [Nat.zero_add, List.nil_append] at ho2
  have HS := Lib.hid (And.intro ho2 hg2); clear ho2 hg2
  have HR := Lib.hid hr2; clear hr2
  go_enter Tryd.func22, Tryd.ntmps22
  go_upto_region 2 with (fail)
  refine wp_region_lit ?_
  refine Fg.wpl_value (v := .slice none 0 0) (w' := w) rfl (Fg.run_move rfl rfl) ?_
  refine Fg.wpl_value (v := .slice a n cap) (w' := w) rfl (Fg.run_move rfl rfl) ?_
  refine wpList_append_run rfl (.tmp 4) (.tmp 5) 22 rfl rfl _ _ rfl rfl _ _ HR.out ?_
  refine Fg.wpl_value (v := v2) (w' := w2) rfl (Fg.run_assign rfl rfl) ?_
  refine wpList_nil ?_
  simp only [Act.put, List.setIfInBounds_toArray, List.set_cons_succ, List.set_cons_zero]
  go_wp2
  go_ret
  obtain ⟨ho2, hg2⟩ := HS.out
  have hg3 : w.grownBy w2 none := hg2
  have ho4 := ho2
  rcases ho4.2 with ⟨_, h⟩ | ⟨g, c, cur, rfl, _⟩
  · omega
  · exact ⟨g, c, rfl, hg3, ho2⟩
end Go.Proofs.YtleegbaigedebaaDoor

/- scalar: MulAdd. -/
namespace Go.Proofs.YtleegbaigedebaaDoor
open Go.RowKit Ow
theorem mul_top (x y z : Nat) (hx : x < 2 ^ 256) (hy : y < 2 ^ 256) (hz : z < 2 ^ 256) : (x * y + z) / 2 ^ (64 * 8) = 0 := by
  have h := Sc.part_lt x y z 4 hy hz
  rw [Sc.part_end x y z hx] at h
  have h2 := div_top (x * y + z) (64 * (4 + 4)) (64 * 8) h (Nat.le_refl _)
  exact h2
set_option maxRecDepth 100000 in
set_option maxHeartbeats 1600000 in
theorem mulAddB_any (ca cb cc Ba Bb Bc : Nat) (a b c : Option Addr) (x y z : List Nat) (w : World) (hx : x.length = 32) (hy : y.length = 32) (hz : z.length = 32) (hA : BytesAt w Ba a ca x) (hB : BytesAt w Bb b cb y) (hC : BytesAt w Bc c cc z) (hT : OTab w) :
    Calls Tryd.prog 20 #[.slice a 32 ca, .slice b 32 cb, .slice c 32 cc] w (OutB (scB (num x * num y + num z)) w) := by
  have hx2 := num_256 x hA.byte (by omega)
  have hy2 := num_256 y hB.byte (by omega)
  have hz2 := num_256 z hC.byte (by omega)
  have hN := mul_top _ _ _ hx2 hy2 hz2
  have HP := Lib.hid (And.intro (And.intro hx hA) (And.intro (And.intro hy hB) (And.intro hz hC))); clear hA hB hC hx hy hz
  have HN := Lib.hid (And.intro hN (And.intro hx2 (And.intro hy2 hz2))); clear hN hx2 hy2 hz2
  have hO : 4 < w.heap.size := hT.lt
  have HT := Lib.hid hT; clear hT
  go_enter Tryd.func20, Tryd.ntmps20
  have hb := Blk.new w zeros12 70
  have hg := gb_alloc (gb_refl w none) (.cells zeros12.toArray 70)
  have hb0 : Blk (w.alloc (.cells zeros12.toArray 70)) w.heap.size 70 ([.int .u64 0, .int .u64 0, .int .u64 0, .int .u64 0, .int .u64 0, .int .u64 0, .int .u64 0, .int .u64 0] ++ [.int .u64 0, .int .u64 0, .int .u64 0, .int .u64 0]) := hb
  have HB := Lib.hid hb0; clear hb hb0
  have HG := Lib.hid hg; clear hg
  go_wp2_with fail
  refine (narrowOf_any 32 ca Ba a x _ HP.out.1.1 (by omega) (HP.out.1.2.stay HG.out)).mono ?_
  rintro e w1 ⟨rfl, hg1⟩
  have HG1 := Lib.hid (gb_trans HG.out hg1)
  have HB1 := Lib.hid (HB.out.grown hg1 (by simp)); clear hg1
  go_wp2_with fail
  refine (narrowOf_any 32 cb Bb b y w1 HP.out.2.1.1 (by omega) (HP.out.2.1.2.stay HG1.out)).mono ?_
  rintro e w2 ⟨rfl, hg2⟩
  have HG2 := Lib.hid (gb_trans HG1.out hg2)
  have HB2 := Lib.hid (HB1.out.grown hg2 (by simp)); clear hg2
  go_wp2_with fail
  refine (narrowOf_any 32 cc Bc c z w2 HP.out.2.2.1 (by omega) (HP.out.2.2.2.stay HG2.out)).mono ?_
  rintro e w3 ⟨rfl, hg3⟩
  have HG3 := Lib.hid (gb_trans HG2.out hg3)
  have HB3 := Lib.hid (HB2.out.grown hg3 (by simp)); clear hg3
  go_wp2_with fail
  refine (mulAdd_any w.heap.size (num x) (num y) (num z) _ _ _ w3 rfl HN.out.2.1 HN.out.2.2.1 HN.out.2.2.2 HB3.out).mono ?_
  rintro e w4 ⟨rfl, hg4, hb4⟩
  have HG4 := Lib.hid (gb_then HG3.out hg4 (Nat.le_refl _)); clear hg4
  have HB4 := Lib.hid hb4; clear hb4
  go_wp2_with fail
  refine (modulo_any w.heap.size (num x * num y + num z) _ _ _ _ _ w4 HN.out.1 (HT.out.kept HG4.out (fun r e => by cases e)) hO HB4.out).mono ?_
  rintro e w5 ⟨rfl, hg5, _⟩
  have HG5 := Lib.hid (gb_then HG4.out hg5 (Nat.le_refl _)); clear hg5
  go_wp2_with fail
  refine (nbytes_any ((num x * num y + num z) % Sc.L) w5).mono ?_
  rintro e w6 ⟨g, rfl, hg6, ho6⟩
  have HO := Lib.hid (And.intro hg6 ho6); clear hg6 ho6
  go_wp2
  go_ret
  exact out_of HG5.out HO.out.1 HO.out.2 _ rfl
end Go.Proofs.YtleegbaigedebaaDoor

/- edwards: EdwardsOften. -/
namespace Go.Proofs.YtleegbaigedebaaDoor
open Go.RowKit Ow Go.Shelf Ed
set_option maxRecDepth 100000 in
set_option maxHeartbeats 12800000 in
theorem often_any (B n0 c0 n1 c1 n2 c2 : Nat) (a0 a1 a2 : Option Addr) (l0 l1 l2 : List Nat) (w0 : World) (HO0 : OTab w0) (HT0 : ETab w0) (hl0 : l0.length = n0) (hl1 : l1.length = n1) (hl2 : l2.length = n2) (HP0 : Hid (BytesAt w0 B a0 c0 l0)) (HP1 : Hid (BytesAt w0 B a1 c1 l1)) (HP2 : Hid (BytesAt w0 B a2 c2 l2)) :
  Calls Tryd.prog 4 #[.slice a0 n0 c0, .slice a1 n1 c1, .slice a2 n2 c2] w0 fun e w' => e = .returned (.bool true) ∧ w0.grownBy w' none := by
 go_enter Tryd.func4, Tryd.ntmps4
 have G : w0.grownBy w0 none := gb_refl _ _
 have HT := HT0
 go_upto_region 1 with (fail)
 have Gs0 := G.size
 refine Fg.rP [] [.any, .any, .any, .any, .any, .any, .any, .any, .any, .any, .any, .any, .any, .any, .any, .any, .any, .val (Value.bool true), .val (Value.bool false)] 2 ?_ ?_
 ·refine Fg.cS rfl (by decide) (fun ac w h => ?_) ?_
  ·refine ⟨wants_none rfl, 6, #[], Fg.run_call rfl rfl (by simp) (Fg.run_enter Tryd.func6 (by kernel_rfl) (by kernel_rfl)), ?_⟩
   exact (awake4_any _ (HT.grown h.base)).mono fun _ _ ⟨he, hg⟩ => ⟨_, he, hg, rfl⟩
  refine Fg.vS rfl (by decide) (fun ac w h => ?_) ?_
  ·have e17 : _ = Value.bool true := h.d 17
   refine ⟨wants_none rfl, Value.bool false, w, ?_, gb_refl _ _, rfl⟩
   clear h
   simp only [execOp, Act.eval, e17]
   go_simp
  trivial
 ·intro qa V1 g1 hsz hdf hrest hslots hpt
  obtain ⟨u17, hs17⟩ := Fg.slotv qa 17
  obtain rfl := Fg.frame_by [17, 18] (vs := [Value.slice a0 n0 c0, Value.slice a1 n1 c1, Value.slice a2 n2 c2, undef, undef, undef, Value.bool false, undef, undef, undef, undef, undef, undef, undef, undef, undef, undef, u17, Value.bool false, undef, undef, undef, undef, undef, undef, undef, undef, undef, undef, undef, undef, undef, undef, undef, undef, undef, undef, undef, undef, undef, undef, undef, undef, undef, undef, undef, undef, undef, undef, undef, undef, undef, undef, undef, undef, undef, undef, undef, undef, undef, undef, undef, undef, undef, undef, undef, undef, undef, undef, undef, undef, undef, undef, undef, undef, undef, undef, undef, undef, undef, undef, undef, undef, undef, undef, undef, undef, undef, undef, undef, undef, undef, undef, undef, undef, undef, undef, undef, undef, undef, undef, undef, undef, undef, undef, undef, undef, undef, undef, undef, undef, undef, undef, undef, undef, undef]) hsz hrest (by kernel_rfl) rfl rfl ⟨hs17, (show qa.tmps.getD 18 undef = Value.bool false from hslots 18 (by kernel_rfl)), trivial⟩ hdf
  clear hsz hdf hrest hslots hpt hs17
  replace G := gb_trans G g1
  replace HT := HT.grown g1
  clear g1
  by_cases hn0 : n0 ≤ 100
  case neg =>
   have i0 : (100 : Int) < n0 := by omega
   go_wp2
   go_ret
   exact ⟨rfl, G⟩
  have i0 : ¬ (100 : Int) < n0 := by omega
  by_cases hn1 : n1 ≤ 100
  case neg =>
   have i1 : (100 : Int) < n1 := by omega
   go_wp2
   go_ret
   exact ⟨rfl, G⟩
  have i1 : ¬ (100 : Int) < n1 := by omega
  by_cases hn2 : n2 ≤ 100
  case neg =>
   have i2 : (100 : Int) < n2 := by omega
   go_wp2
   go_ret
   exact ⟨rfl, G⟩
  have i2 : ¬ (100 : Int) < n2 := by omega
  go_upto_region 5 with (fail)
  refine wp_region_lit ?_
  refine Fg.wpl_value (v := .slice a0 n0 c0) (w' := V1) rfl (Fg.run_move rfl rfl) ?_
  simp only [Act.put, List.setIfInBounds_toArray, List.set_cons_succ, List.set_cons_zero]
  refine Fg.wpl_call rfl (Fg.run_call (vs := #[.slice a0 n0 c0]) rfl rfl (by simp only [List.map_toArray, List.map_cons, List.map_nil, Act.eval]; rfl) (Fg.run_enter Tryd.func17 (by kernel_rfl) (by kernel_rfl))) ?_
  refine (fold_any B n0 c0 a0 l0 V1 hl0 (HP0.out.stay G)).mono ?_
  rintro e A1 ⟨lx, hlx, hltx, ho⟩
  obtain ⟨gx, yx, rfl, ga, hnx, hbx⟩ := outB_row ho hlx
  refine ⟨_, rfl, ?_⟩
  clear ho
  have hwx : w0.heap.size ≤ gx := Nat.le_trans G.size hnx
  replace G := gb_trans G ga
  replace HT := HT.grown ga
  clear ga
  simp only [Act.put, List.setIfInBounds_toArray, List.set_cons_succ, List.set_cons_zero]
  refine Fg.wpl_value (v := .slice a1 n1 c1) (w' := A1) rfl (Fg.run_move rfl rfl) ?_
  simp only [Act.put, List.setIfInBounds_toArray, List.set_cons_succ, List.set_cons_zero]
  have l3hbx := hbx.lt
  refine Fg.wpl_call rfl (Fg.run_call (vs := #[.slice a1 n1 c1]) rfl rfl (by simp only [List.map_toArray, List.map_cons, List.map_nil, Act.eval]; rfl) (Fg.run_enter Tryd.func17 (by kernel_rfl) (by kernel_rfl))) ?_
  refine (fold_any B n1 c1 a1 l1 A1 hl1 (HP1.out.stay G)).mono ?_
  rintro e A2 ⟨ly, hly, hlty, ho⟩
  obtain ⟨gy, yy, rfl, ga, hny, hby⟩ := outB_row ho hly
  refine ⟨_, rfl, ?_⟩
  clear ho
  have hwy : w0.heap.size ≤ gy := Nat.le_trans G.size hny
  replace hbx := hbx.gn ga
  replace G := gb_trans G ga
  replace HT := HT.grown ga
  clear ga
  simp only [Act.put, List.setIfInBounds_toArray, List.set_cons_succ, List.set_cons_zero]
  refine Fg.wpl_value (v := .slice (some ⟨gx, 0, none⟩) 32 32) (w' := A2) rfl (Fg.run_assign rfl rfl) ?_
  simp only [Act.put, List.setIfInBounds_toArray, List.set_cons_succ, List.set_cons_zero]
  refine Fg.wpl_value (v := .slice (some ⟨gy, 0, none⟩) 32 32) (w' := A2) rfl (Fg.run_assign rfl rfl) ?_
  simp only [Act.put, List.setIfInBounds_toArray, List.set_cons_succ, List.set_cons_zero]
  refine wpList_nil ?_
  go_upto_region 6 with (fail)
  refine wp_region_lit ?_
  refine Fg.wpl_value (v := .slice (some ⟨A2.heap.size, 0, none⟩) 1 1) (w' := A2.alloc (.cells #[u8N 1] 5)) rfl (by go_simp; rfl) ?_
  simp only [Act.put, List.setIfInBounds_toArray, List.set_cons_succ, List.set_cons_zero]
  have hz := one_bytes A2
  have gz := gb_alloc (gb_refl A2 none) (.cells #[u8N 1] 5)
  replace hbx := hbx.gn gz
  replace hby := hby.gn gz
  replace G := gb_trans G gz
  replace HT := HT.grown gz
  clear gz
  obtain ⟨Z, hZ⟩ : ∃ x, x = A2.heap.size := ⟨_, rfl⟩
  rw [← hZ] at hz ⊢
  clear hZ
  revert hbx hby G HT hz
  generalize (A2.alloc (.cells #[u8N 1] 5)) = A3
  intro hbx hby G HT hz
  have l4hbx := hbx.lt
  have l4hby := hby.lt
  refine Fg.wpl_call rfl (Fg.run_call (vs := #[.slice (some ⟨Z, 0, none⟩) 1 1]) rfl rfl (by simp only [List.map_toArray, List.map_cons, List.map_nil, Act.eval]; rfl) (Fg.run_enter Tryd.func18 (by kernel_rfl) (by kernel_rfl))) ?_
  refine (bytes32_any A3.heap.size 1 1 (some ⟨Z, 0, none⟩) [1] A3 rfl (by decide) hz).mono ?_
  rintro e A4 ho
  obtain ⟨go, co, yo, rfl, ga, hno, h32o, hco, hbo⟩ := ownB_row ho
  refine ⟨_, rfl, ?_⟩
  clear ho
  have hwo : w0.heap.size ≤ go := Nat.le_trans G.size hno
  replace hbx := hbx.gn ga
  replace hby := hby.gn ga
  replace G := gb_trans G ga
  replace HT := HT.grown ga
  clear ga
  simp only [Act.put, List.setIfInBounds_toArray, List.set_cons_succ, List.set_cons_zero]
  change Blk _ _ _ (oneL'.map u8N ++ yo) at hbo
  clear hz
  have l5hbx := hbx.lt
  have l5hby := hby.lt
  have l5hbo := hbo.lt
  refine Fg.wpl_call rfl (Fg.run_call (vs := #[.slice none 0 0]) rfl rfl (by simp only [List.map_toArray, List.map_cons, List.map_nil, Act.eval]) (Fg.run_enter Tryd.func18 (by kernel_rfl) (by kernel_rfl))) ?_
  refine (bytes32_any A4.heap.size 0 0 none [] A4 rfl (by decide) (nil_bytes _)).mono ?_
  rintro e A5 ho
  obtain ⟨gz, cz, yz, rfl, ga, hnz, h32z, hcz, hbz⟩ := ownB_row ho
  refine ⟨_, rfl, ?_⟩
  clear ho
  have hwz : w0.heap.size ≤ gz := Nat.le_trans G.size hnz
  replace hbx := hbx.gn ga
  replace hby := hby.gn ga
  replace hbo := hbo.gn ga
  replace G := gb_trans G ga
  replace HT := HT.grown ga
  clear ga
  simp only [Act.put, List.setIfInBounds_toArray, List.set_cons_succ, List.set_cons_zero]
  change Blk _ _ _ (noL.map u8N ++ yz) at hbz
  refine Fg.wpl_value (v := .slice (some ⟨go, 0, none⟩) 32 co) (w' := A5) rfl (Fg.run_assign rfl rfl) ?_
  simp only [Act.put, List.setIfInBounds_toArray, List.set_cons_succ, List.set_cons_zero]
  refine Fg.wpl_value (v := .slice (some ⟨gz, 0, none⟩) 32 cz) (w' := A5) rfl (Fg.run_assign rfl rfl) ?_
  simp only [Act.put, List.setIfInBounds_toArray, List.set_cons_succ, List.set_cons_zero]
  refine wpList_nil ?_
  go_upto_region 7 with (fail)
  have Gs1 := G.size
  have l6hbx := hbx.lt
  have l6hby := hby.lt
  have l6hbo := hbo.lt
  have l6hbz := hbz.lt
  refine Fg.rP [11] [.any, .any, .any, .any, .any, .any, .any, .any, .any, .any, .any, .fresh 28 zr20 A5.heap.size, .any, .any, .any, .any, .any, .any, .any, .any, .any, .any, .any, .any, .any, .any, .any, .any, .any, .any, .any, .any, .any, .any, .any, .any, .any, .any, .any, .val (baseT.v)] 2 ?_ ?_
  ·refine Fg.cS rfl (by decide) (fun ac w h => ?_) ?_
   ·refine ⟨wants_none rfl, 19, #[], Fg.run_call rfl rfl (by simp) (Fg.run_enter Tryd.func19 (by kernel_rfl) (by kernel_rfl)), ?_⟩
    exact (edBase _ (HT.grown h.base)).mono fun _ _ ⟨he, hg⟩ => ⟨_, he, hg, rfl⟩
   refine ⟨⟨⟨_, rfl⟩, Fg.allocP (fun _ _ h k => gb_trans h k) rfl (by show 11 < 116; decide) fun ac w h => ?_⟩, ?_⟩
   ·refine ⟨wants_none rfl, w.alloc (.cells zr20.toArray 28), ?_, World.grownBy_alloc _ _ _, by simp, ⟨w.heap.size, rfl, h.base.size, Blk.new w zr20 _⟩⟩
    clear h
    go_simp
   trivial
  ·intro qa V2 g2 hsz hdf hrest hslots hpt
   obtain ⟨N11, hs11, hn11, hb11⟩ : ∃ N, qa.tmps.getD 11 undef = .pointer (some ⟨N, 0, none⟩) ∧ A5.heap.size ≤ N ∧ Blk V2 N 28 zr20 := hslots 11 (by kernel_rfl)
   obtain ⟨u17, hs17⟩ := Fg.slotv qa 17
   obtain ⟨u18, hs18⟩ := Fg.slotv qa 18
   obtain ⟨u19, hs19⟩ := Fg.slotv qa 19
   obtain ⟨u20, hs20⟩ := Fg.slotv qa 20
   obtain ⟨u21, hs21⟩ := Fg.slotv qa 21
   obtain ⟨u22, hs22⟩ := Fg.slotv qa 22
   obtain ⟨u23, hs23⟩ := Fg.slotv qa 23
   obtain ⟨u24, hs24⟩ := Fg.slotv qa 24
   obtain ⟨u25, hs25⟩ := Fg.slotv qa 25
   obtain ⟨u26, hs26⟩ := Fg.slotv qa 26
   obtain ⟨u27, hs27⟩ := Fg.slotv qa 27
   obtain ⟨u28, hs28⟩ := Fg.slotv qa 28
   obtain ⟨u29, hs29⟩ := Fg.slotv qa 29
   obtain ⟨u30, hs30⟩ := Fg.slotv qa 30
   obtain ⟨u31, hs31⟩ := Fg.slotv qa 31
   obtain ⟨u32, hs32⟩ := Fg.slotv qa 32
   obtain ⟨u33, hs33⟩ := Fg.slotv qa 33
   obtain ⟨u34, hs34⟩ := Fg.slotv qa 34
   obtain ⟨u35, hs35⟩ := Fg.slotv qa 35
   obtain ⟨u36, hs36⟩ := Fg.slotv qa 36
   obtain ⟨u37, hs37⟩ := Fg.slotv qa 37
   obtain ⟨u38, hs38⟩ := Fg.slotv qa 38
   obtain rfl := Fg.frame_by [11, 17, 18, 19, 20, 21, 22, 23, 24, 25, 26, 27, 28, 29, 30, 31, 32, 33, 34, 35, 36, 37, 38, 39] (vs := [Value.slice a0 n0 c0, Value.slice a1 n1 c1, Value.slice a2 n2 c2, undef, undef, undef, Value.bool false, Value.slice (some ⟨gx, 0, none⟩) 32 32, Value.slice (some ⟨gy, 0, none⟩) 32 32, Value.slice (some ⟨go, 0, none⟩) 32 co, Value.slice (some ⟨gz, 0, none⟩) 32 cz, Value.pointer (some ⟨N11, 0, none⟩), undef, undef, undef, undef, undef, u17, u18, u19, u20, u21, u22, u23, u24, u25, u26, u27, u28, u29, u30, u31, u32, u33, u34, u35, u36, u37, u38, baseT.v, undef, undef, undef, undef, undef, undef, undef, undef, undef, undef, undef, undef, undef, undef, undef, undef, undef, undef, undef, undef, undef, undef, undef, undef, undef, undef, undef, undef, undef, undef, undef, undef, undef, undef, undef, undef, undef, undef, undef, undef, undef, undef, undef, undef, undef, undef, undef, undef, undef, undef, undef, undef, undef, undef, undef, undef, undef, undef, undef, undef, undef, undef, undef, undef, undef, undef, undef, undef, undef, undef, undef, undef, undef, undef, undef, undef]) hsz hrest (by kernel_rfl) rfl rfl ⟨hs11, hs17, hs18, hs19, hs20, hs21, hs22, hs23, hs24, hs25, hs26, hs27, hs28, hs29, hs30, hs31, hs32, hs33, hs34, hs35, hs36, hs37, hs38, (show qa.tmps.getD 39 undef = baseT.v from hslots 39 (by kernel_rfl)), trivial⟩ hdf
   clear hsz hdf hrest hslots hpt hs11 hs17 hs18 hs19 hs20 hs21 hs22 hs23 hs24 hs25 hs26 hs27 hs28 hs29 hs30 hs31 hs32 hs33 hs34 hs35 hs36 hs37 hs38
   replace hbx := hbx.gn g2
   replace hby := hby.gn g2
   replace hbo := hbo.gn g2
   replace hbz := hbz.gn g2
   replace G := gb_trans G g2
   replace HT := HT.grown g2
   have hw11 : w0.heap.size ≤ N11 := Nat.le_trans Gs1 hn11
   clear g2
   refine Fg.wpl_skip rfl rfl (Fg.run_store (cs := ptL baseT) rfl rfl rfl (hb11.there 0 20 (by show 0 + 20 ≤ 20; decide)) info_point (ptL_one _)) ?_
   replace hbx := hbx.setCells_other (C := N11) (cs := ptL baseT) 0 (by omega)
   replace hby := hby.setCells_other (C := N11) (cs := ptL baseT) 0 (by omega)
   replace hbo := hbo.setCells_other (C := N11) (cs := ptL baseT) 0 (by omega)
   replace hbz := hbz.setCells_other (C := N11) (cs := ptL baseT) 0 (by omega)
   replace hb11 : Blk (V2.setCells N11 0 (ptL baseT)) N11 28 (ptL baseT) := hb11.setAll rfl
   replace G := gb_setCells_new (cs := ptL baseT) G (B := N11) (hw11) 0
   replace HT := HT.keep (gb_setCells (cs := ptL baseT) (gb_refl _ (some N11)) 0) (HT0.noG (hw11))
   revert hbx hby hbo hbz hb11 G HT
   generalize V2.setCells N11 0 (ptL baseT) = W3
   intro hbx hby hbo hbz hb11 G HT
   go_upto_region 8 with (fail)
   refine wp_region_lit ?_
   refine Fg.wpl_value (v := .slice (some ⟨gx, 0, none⟩) 32 32) (w' := W3) rfl (Fg.run_move rfl rfl) ?_
   simp only [Act.put, List.setIfInBounds_toArray, List.set_cons_succ, List.set_cons_zero]
   refine Fg.wpl_value (v := .slice (some ⟨go, 0, none⟩) 32 co) (w' := W3) rfl (Fg.run_move rfl rfl) ?_
   simp only [Act.put, List.setIfInBounds_toArray, List.set_cons_succ, List.set_cons_zero]
   refine Fg.wpl_value (v := .slice (some ⟨gy, 0, none⟩) 32 32) (w' := W3) rfl (Fg.run_move rfl rfl) ?_
   simp only [Act.put, List.setIfInBounds_toArray, List.set_cons_succ, List.set_cons_zero]
   have l7hbx := hbx.lt
   have l7hby := hby.lt
   have l7hbo := hbo.lt
   have l7hbz := hbz.lt
   have l7hb11 := hb11.lt
   refine Fg.wpl_call rfl (Fg.run_call (vs := #[.slice (some ⟨gx, 0, none⟩) 32 32, .slice (some ⟨go, 0, none⟩) 32 co, .slice (some ⟨gy, 0, none⟩) 32 32]) rfl rfl (by simp only [List.map_toArray, List.map_cons, List.map_nil, Act.eval]; rfl) (Fg.run_enter Tryd.func20 (by kernel_rfl) (by kernel_rfl))) ?_
   refine (mulAddB_any 32 co 32 _ _ _ (some ⟨gx, 0, none⟩) (some ⟨go, 0, none⟩) (some ⟨gy, 0, none⟩) lx oneL' ly W3 hlx rfl hly (rowB hbx hlx (by decide) (by decide) hltx).out (rowB hbo rfl h32o hco oneL'_lt).out (rowB hby hly (by decide) (by decide) hlty).out (HO0.kept G (fun r e => by cases e))).mono ?_
   rintro e A6 ho
   obtain ⟨ls, hqs⟩ : ∃ q, q = scB (num lx * num oneL' + num ly) := ⟨_, rfl⟩
   rw [← hqs] at ho
   have hls : ls.length = 32 := by rw [hqs]; exact scB_length _
   have hlts : ∀ i, ls.getD i 0 < 256 := by rw [hqs]; exact scB_lt _
   have hms : num ls = (num lx * num oneL' + num ly) % Sc.L := by rw [hqs]; exact scB_num _
   have HMs := Lib.hid hms; clear hms hqs
   obtain ⟨gs, ys, rfl, ga, hns, hbs⟩ := outB_row ho hls
   refine ⟨_, rfl, ?_⟩
   clear ho
   have hws : w0.heap.size ≤ gs := Nat.le_trans G.size hns
   replace hbx := hbx.gn ga
   replace hby := hby.gn ga
   replace hbo := hbo.gn ga
   replace hbz := hbz.gn ga
   replace hb11 := hb11.gn ga
   replace G := gb_trans G ga
   replace HT := HT.grown ga
   clear ga
   simp only [Act.put, List.setIfInBounds_toArray, List.set_cons_succ, List.set_cons_zero]
   refine Fg.wpl_value (v := .slice (some ⟨gx, 0, none⟩) 32 32) (w' := A6) rfl (Fg.run_move rfl rfl) ?_
   simp only [Act.put, List.setIfInBounds_toArray, List.set_cons_succ, List.set_cons_zero]
   refine Fg.wpl_value (v := .slice (some ⟨gy, 0, none⟩) 32 32) (w' := A6) rfl (Fg.run_move rfl rfl) ?_
   simp only [Act.put, List.setIfInBounds_toArray, List.set_cons_succ, List.set_cons_zero]
   refine Fg.wpl_value (v := .slice (some ⟨gz, 0, none⟩) 32 cz) (w' := A6) rfl (Fg.run_move rfl rfl) ?_
   simp only [Act.put, List.setIfInBounds_toArray, List.set_cons_succ, List.set_cons_zero]
   have l8hbx := hbx.lt
   have l8hby := hby.lt
   have l8hbo := hbo.lt
   have l8hbz := hbz.lt
   have l8hb11 := hb11.lt
   have l8hbs := hbs.lt
   refine Fg.wpl_call rfl (Fg.run_call (vs := #[.slice (some ⟨gx, 0, none⟩) 32 32, .slice (some ⟨gy, 0, none⟩) 32 32, .slice (some ⟨gz, 0, none⟩) 32 cz]) rfl rfl (by simp only [List.map_toArray, List.map_cons, List.map_nil, Act.eval]; rfl) (Fg.run_enter Tryd.func20 (by kernel_rfl) (by kernel_rfl))) ?_
   refine (mulAddB_any 32 32 cz _ _ _ (some ⟨gx, 0, none⟩) (some ⟨gy, 0, none⟩) (some ⟨gz, 0, none⟩) lx ly noL A6 hlx hly rfl (rowB hbx hlx (by decide) (by decide) hltx).out (rowB hby hly (by decide) (by decide) hlty).out (rowB hbz rfl h32z hcz noL_lt).out (HO0.kept G (fun r e => by cases e))).mono ?_
   rintro e A7 ho
   obtain ⟨lp, hqp⟩ : ∃ q, q = scB (num lx * num ly + num noL) := ⟨_, rfl⟩
   rw [← hqp] at ho
   have hlp : lp.length = 32 := by rw [hqp]; exact scB_length _
   have hltp : ∀ i, lp.getD i 0 < 256 := by rw [hqp]; exact scB_lt _
   have hmp : num lp = (num lx * num ly + num noL) % Sc.L := by rw [hqp]; exact scB_num _
   have HMp := Lib.hid hmp; clear hmp hqp
   obtain ⟨gp, yp, rfl, ga, hnp, hbp⟩ := outB_row ho hlp
   refine ⟨_, rfl, ?_⟩
   clear ho
   have hwp : w0.heap.size ≤ gp := Nat.le_trans G.size hnp
   replace hbx := hbx.gn ga
   replace hby := hby.gn ga
   replace hbo := hbo.gn ga
   replace hbz := hbz.gn ga
   replace hb11 := hb11.gn ga
   replace hbs := hbs.gn ga
   replace G := gb_trans G ga
   replace HT := HT.grown ga
   clear ga
   simp only [Act.put, List.setIfInBounds_toArray, List.set_cons_succ, List.set_cons_zero]
   refine Fg.wpl_value (v := .slice (some ⟨gs, 0, none⟩) 32 32) (w' := A7) rfl (Fg.run_assign rfl rfl) ?_
   simp only [Act.put, List.setIfInBounds_toArray, List.set_cons_succ, List.set_cons_zero]
   refine Fg.wpl_value (v := .slice (some ⟨gp, 0, none⟩) 32 32) (w' := A7) rfl (Fg.run_assign rfl rfl) ?_
   simp only [Act.put, List.setIfInBounds_toArray, List.set_cons_succ, List.set_cons_zero]
   refine wpList_nil ?_
   go_upto_region 9 with (fail)
   have Gs3 := G.size
   have l9hbx := hbx.lt
   have l9hby := hby.lt
   have l9hbo := hbo.lt
   have l9hbz := hbz.lt
   have l9hb11 := hb11.lt
   have l9hbs := hbs.lt
   have l9hbp := hbp.lt
   refine Fg.rT [] [.any, .any, .any, .any, .any, .any, .any, .any, .any, .any, .any, .any, .any, .any, .any, .any, .any, .any, .any, .any, .any, .any, .any, .any, .any, .any, .any, .any, .any, .any, .any, .any, .any, .any, .any, .any, .any, .any, .any, .any, .any, .any, .any, .any, .any, .any, .any, .any, .val (Value.slice (some ⟨gx, 0, none⟩) 32 32), .val (baseT.v), .stands (nmul (num lx) baseR), .val (Value.slice (some ⟨gy, 0, none⟩) 32 32), .val (baseT.v), .stands (nmul (num ly) baseR), .pts [nmul (num lx) baseR, nmul (num ly) baseR] 2 A7.heap.size, .stands (sumPr [nmul (num lx) baseR, nmul (num ly) baseR]), .val (Value.slice (some ⟨gs, 0, none⟩) 32 32), .val (baseT.v), .stands (nmul (num ls) baseR), .val (Value.bool true), .val (Value.bool false), .val (Value.bool false), .val (Value.slice (some ⟨gx, 0, none⟩) 32 32), .val (Value.slice (some ⟨gy, 0, none⟩) 32 32), .val (baseT.v), .stands (nmul (num ly) baseR), .stands (nmul (num lx) (nmul (num ly) baseR)), .val (Value.slice (some ⟨gp, 0, none⟩) 32 32), .val (baseT.v), .stands (nmul (num lp) baseR), .val (Value.bool true), .val (Value.bool false), .val (Value.bool false)] 25 ?_ ?_
   ·refine Fg.vS rfl (by decide) (fun ac w h => ?_) ?_
    ·have e7 : _ = Value.slice (some ⟨gx, 0, none⟩) 32 32 := h.r 7
     exact Fg.vn (Value.slice (some ⟨gx, 0, none⟩) 32 32) (Fg.run_move rfl e7)
    refine Fg.vS rfl (by decide) (fun ac w h => ?_) ?_
    ·have e11 : _ = Value.pointer (some ⟨N11, 0, none⟩) := h.r 11
     exact Fg.vn baseT.v (Fg.run_load rfl e11 ((hb11.gn h.base).range 0 (ptL baseT) rfl) Tryd.underlying28 rfl info_point)
    refine Fg.cS rfl (by decide) (fun ac w h => ?_) ?_
    ·have e48 : _ = Value.slice (some ⟨gx, 0, none⟩) 32 32 := h.d 48
     have e49 : _ = baseT.v := h.d 49
     refine ⟨wants_none rfl, 21, #[Value.slice (some ⟨gx, 0, none⟩) 32 32, baseT.v], Fg.run_call rfl rfl (by simp only [List.map_toArray, List.map_cons, List.map_nil, Act.eval, e48, e49]) (Fg.run_enter Tryd.func21 (by kernel_rfl) (by kernel_rfl)), ?_⟩
     exact (edMul baseT baseR lx 32 _ (some ⟨gx, 0, none⟩) _ (HT.grown h.base) baseIs hlx (rowB (hbx.gn h.base) hlx (by decide) (by decide) hltx)).mono fun _ _ ⟨t, ht, he, hg⟩ => ⟨_, he, hg, ⟨t, rfl, ht⟩⟩
    refine Fg.vS rfl (by decide) (fun ac w h => ?_) ?_
    ·have e8 : _ = Value.slice (some ⟨gy, 0, none⟩) 32 32 := h.r 8
     exact Fg.vn (Value.slice (some ⟨gy, 0, none⟩) 32 32) (Fg.run_move rfl e8)
    refine Fg.vS rfl (by decide) (fun ac w h => ?_) ?_
    ·have e11 : _ = Value.pointer (some ⟨N11, 0, none⟩) := h.r 11
     exact Fg.vn baseT.v (Fg.run_load rfl e11 ((hb11.gn h.base).range 0 (ptL baseT) rfl) Tryd.underlying28 rfl info_point)
    refine Fg.cS rfl (by decide) (fun ac w h => ?_) ?_
    ·have e51 : _ = Value.slice (some ⟨gy, 0, none⟩) 32 32 := h.d 51
     have e52 : _ = baseT.v := h.d 52
     refine ⟨wants_none rfl, 21, #[Value.slice (some ⟨gy, 0, none⟩) 32 32, baseT.v], Fg.run_call rfl rfl (by simp only [List.map_toArray, List.map_cons, List.map_nil, Act.eval, e51, e52]) (Fg.run_enter Tryd.func21 (by kernel_rfl) (by kernel_rfl)), ?_⟩
     exact (edMul baseT baseR ly 32 _ (some ⟨gy, 0, none⟩) _ (HT.grown h.base) baseIs hly (rowB (hby.gn h.base) hly (by decide) (by decide) hlty)).mono fun _ _ ⟨t, ht, he, hg⟩ => ⟨_, he, hg, ⟨t, rfl, ht⟩⟩
    refine Fg.vS rfl (by decide) (fun ac w h => ?_) ?_
    ·obtain ⟨t50, e50, is_t50⟩ : ∃ t : Pt, ac.tmps.getD 50 undef = t.v ∧ PtIs t (nmul (num lx) baseR) := h.dep 50 (by kernel_rfl)
     obtain ⟨t53, e53, is_t53⟩ : ∃ t : Pt, ac.tmps.getD 53 undef = t.v ∧ PtIs t (nmul (num ly) baseR) := h.dep 53 (by kernel_rfl)
     exact ⟨wants_none rfl, .slice (some ⟨w.heap.size, 0, none⟩) 2 2, w.alloc (.cells (ptsL [t50, t53]).toArray 28), Fg.run_buildSlice (vs := #[(0, t50.v), (1, t53.v)]) rfl (by simp only [List.map_toArray, List.map_cons, List.map_nil, Act.eval, e50, e53]) (by kernel_rfl), World.grownBy_alloc _ _ _, ⟨w.heap.size, _, rfl, h.base.size, (ptsAre_c is_t50 (ptsAre_c is_t53 ptsAre_0)), Blk.new w (ptsL [t50, t53]) _⟩⟩
    refine Fg.cS rfl (by decide) (fun ac w h => ?_) ?_
    ·obtain ⟨B54, LB54, e54, hn54, ar_B54, b_B54⟩ : ∃ (N : Nat) (L : List Pt), ac.tmps.getD 54 undef = .slice (some ⟨N, 0, none⟩) 2 2 ∧ A7.heap.size ≤ N ∧ PtsAre L [nmul (num lx) baseR, nmul (num ly) baseR] ∧ Blk w N 28 (ptsL L) := h.dep 54 (by kernel_rfl)
     refine ⟨wants_none rfl, 8, #[Value.slice (some ⟨B54, 0, none⟩) 2 2], Fg.run_call rfl rfl (by simp only [List.map_toArray, List.map_cons, List.map_nil, Act.eval, e54]) (Fg.run_enter Tryd.func8 (by kernel_rfl) (by kernel_rfl)), ?_⟩
     exact (edAddIs B54 2 LB54 [nmul (num lx) baseR, nmul (num ly) baseR] _ (HT.grown h.base) rfl (by decide) (by decide) ar_B54 b_B54).mono fun _ _ ⟨t, ht, he, hg⟩ => ⟨_, he, hg, ⟨t, rfl, ht⟩⟩
    refine Fg.vS rfl (by decide) (fun ac w h => ?_) ?_
    ·have e12 : _ = Value.slice (some ⟨gs, 0, none⟩) 32 32 := h.r 12
     exact Fg.vn (Value.slice (some ⟨gs, 0, none⟩) 32 32) (Fg.run_move rfl e12)
    refine Fg.vS rfl (by decide) (fun ac w h => ?_) ?_
    ·have e11 : _ = Value.pointer (some ⟨N11, 0, none⟩) := h.r 11
     exact Fg.vn baseT.v (Fg.run_load rfl e11 ((hb11.gn h.base).range 0 (ptL baseT) rfl) Tryd.underlying28 rfl info_point)
    refine Fg.cS rfl (by decide) (fun ac w h => ?_) ?_
    ·have e56 : _ = Value.slice (some ⟨gs, 0, none⟩) 32 32 := h.d 56
     have e57 : _ = baseT.v := h.d 57
     refine ⟨wants_none rfl, 21, #[Value.slice (some ⟨gs, 0, none⟩) 32 32, baseT.v], Fg.run_call rfl rfl (by simp only [List.map_toArray, List.map_cons, List.map_nil, Act.eval, e56, e57]) (Fg.run_enter Tryd.func21 (by kernel_rfl) (by kernel_rfl)), ?_⟩
     exact (edMul baseT baseR ls 32 _ (some ⟨gs, 0, none⟩) _ (HT.grown h.base) baseIs hls (rowB (hbs.gn h.base) hls (by decide) (by decide) hlts)).mono fun _ _ ⟨t, ht, he, hg⟩ => ⟨_, he, hg, ⟨t, rfl, ht⟩⟩
    refine Fg.cS rfl (by decide) (fun ac w h => ?_) ?_
    ·obtain ⟨t55, e55, is_t55⟩ : ∃ t : Pt, ac.tmps.getD 55 undef = t.v ∧ PtIs t (sumPr [nmul (num lx) baseR, nmul (num ly) baseR]) := h.dep 55 (by kernel_rfl)
     obtain ⟨t58, e58, is_t58⟩ : ∃ t : Pt, ac.tmps.getD 58 undef = t.v ∧ PtIs t (nmul (num ls) baseR) := h.dep 58 (by kernel_rfl)
     refine ⟨wants_none rfl, 9, #[t55.v, t58.v], Fg.run_call rfl rfl (by simp only [List.map_toArray, List.map_cons, List.map_nil, Act.eval, e55, e58]) (Fg.run_enter Tryd.func9 (by kernel_rfl) (by kernel_rfl)), ?_⟩
     exact (edSameIs (b := true) _ is_t55 is_t58 (yes_of (often1 HMs.out))).mono fun _ _ ⟨he, hg⟩ => ⟨_, he, hg, rfl⟩
    refine Fg.vS rfl (by decide) (fun ac w h => ?_) ?_
    ·have e59 : _ = Value.bool true := h.d 59
     refine ⟨wants_none rfl, Value.bool false, w, ?_, gb_refl _ _, rfl⟩
     clear h
     simp only [execOp, Act.eval, e59]
     go_simp
    refine Fg.vS rfl (by decide) (fun ac w h => ?_) ?_
    ·have e60 : _ = Value.bool false := h.d 60
     exact Fg.vn (Value.bool false) (Fg.run_move rfl e60)
    refine Fg.vS rfl (by decide) (fun ac w h => ?_) ?_
    ·have e61 : _ = Value.bool false := h.d 61
     have e7 : _ = Value.slice (some ⟨gx, 0, none⟩) 32 32 := h.r 7
     exact Fg.vx (Value.slice (some ⟨gx, 0, none⟩) 32 32) (wants_some (d := 61) rfl rfl (by rw [h.size]; show 61 < 116; decide) e61) (Fg.run_move rfl e7)
    refine Fg.vS rfl (by decide) (fun ac w h => ?_) ?_
    ·have e61 : _ = Value.bool false := h.d 61
     have e8 : _ = Value.slice (some ⟨gy, 0, none⟩) 32 32 := h.r 8
     exact Fg.vx (Value.slice (some ⟨gy, 0, none⟩) 32 32) (wants_some (d := 61) rfl rfl (by rw [h.size]; show 61 < 116; decide) e61) (Fg.run_move rfl e8)
    refine Fg.vS rfl (by decide) (fun ac w h => ?_) ?_
    ·have e61 : _ = Value.bool false := h.d 61
     have e11 : _ = Value.pointer (some ⟨N11, 0, none⟩) := h.r 11
     exact Fg.vx baseT.v (wants_some (d := 61) rfl rfl (by rw [h.size]; show 61 < 116; decide) e61) (Fg.run_load rfl e11 ((hb11.gn h.base).range 0 (ptL baseT) rfl) Tryd.underlying28 rfl info_point)
    refine Fg.cS rfl (by decide) (fun ac w h => ?_) ?_
    ·have e61 : _ = Value.bool false := h.d 61
     have e63 : _ = Value.slice (some ⟨gy, 0, none⟩) 32 32 := h.d 63
     have e64 : _ = baseT.v := h.d 64
     refine ⟨wants_some (d := 61) rfl rfl (by rw [h.size]; show 61 < 116; decide) e61, 21, #[Value.slice (some ⟨gy, 0, none⟩) 32 32, baseT.v], Fg.run_call rfl rfl (by simp only [List.map_toArray, List.map_cons, List.map_nil, Act.eval, e63, e64]) (Fg.run_enter Tryd.func21 (by kernel_rfl) (by kernel_rfl)), ?_⟩
     exact (edMul baseT baseR ly 32 _ (some ⟨gy, 0, none⟩) _ (HT.grown h.base) baseIs hly (rowB (hby.gn h.base) hly (by decide) (by decide) hlty)).mono fun _ _ ⟨t, ht, he, hg⟩ => ⟨_, he, hg, ⟨t, rfl, ht⟩⟩
    refine Fg.cS rfl (by decide) (fun ac w h => ?_) ?_
    ·have e61 : _ = Value.bool false := h.d 61
     have e62 : _ = Value.slice (some ⟨gx, 0, none⟩) 32 32 := h.d 62
     obtain ⟨t65, e65, is_t65⟩ : ∃ t : Pt, ac.tmps.getD 65 undef = t.v ∧ PtIs t (nmul (num ly) baseR) := h.dep 65 (by kernel_rfl)
     refine ⟨wants_some (d := 61) rfl rfl (by rw [h.size]; show 61 < 116; decide) e61, 21, #[Value.slice (some ⟨gx, 0, none⟩) 32 32, t65.v], Fg.run_call rfl rfl (by simp only [List.map_toArray, List.map_cons, List.map_nil, Act.eval, e62, e65]) (Fg.run_enter Tryd.func21 (by kernel_rfl) (by kernel_rfl)), ?_⟩
     exact (edMul t65 (nmul (num ly) baseR) lx 32 _ (some ⟨gx, 0, none⟩) _ (HT.grown h.base) is_t65 hlx (rowB (hbx.gn h.base) hlx (by decide) (by decide) hltx)).mono fun _ _ ⟨t, ht, he, hg⟩ => ⟨_, he, hg, ⟨t, rfl, ht⟩⟩
    refine Fg.vS rfl (by decide) (fun ac w h => ?_) ?_
    ·have e61 : _ = Value.bool false := h.d 61
     have e13 : _ = Value.slice (some ⟨gp, 0, none⟩) 32 32 := h.r 13
     exact Fg.vx (Value.slice (some ⟨gp, 0, none⟩) 32 32) (wants_some (d := 61) rfl rfl (by rw [h.size]; show 61 < 116; decide) e61) (Fg.run_move rfl e13)
    refine Fg.vS rfl (by decide) (fun ac w h => ?_) ?_
    ·have e61 : _ = Value.bool false := h.d 61
     have e11 : _ = Value.pointer (some ⟨N11, 0, none⟩) := h.r 11
     exact Fg.vx baseT.v (wants_some (d := 61) rfl rfl (by rw [h.size]; show 61 < 116; decide) e61) (Fg.run_load rfl e11 ((hb11.gn h.base).range 0 (ptL baseT) rfl) Tryd.underlying28 rfl info_point)
    refine Fg.cS rfl (by decide) (fun ac w h => ?_) ?_
    ·have e61 : _ = Value.bool false := h.d 61
     have e67 : _ = Value.slice (some ⟨gp, 0, none⟩) 32 32 := h.d 67
     have e68 : _ = baseT.v := h.d 68
     refine ⟨wants_some (d := 61) rfl rfl (by rw [h.size]; show 61 < 116; decide) e61, 21, #[Value.slice (some ⟨gp, 0, none⟩) 32 32, baseT.v], Fg.run_call rfl rfl (by simp only [List.map_toArray, List.map_cons, List.map_nil, Act.eval, e67, e68]) (Fg.run_enter Tryd.func21 (by kernel_rfl) (by kernel_rfl)), ?_⟩
     exact (edMul baseT baseR lp 32 _ (some ⟨gp, 0, none⟩) _ (HT.grown h.base) baseIs hlp (rowB (hbp.gn h.base) hlp (by decide) (by decide) hltp)).mono fun _ _ ⟨t, ht, he, hg⟩ => ⟨_, he, hg, ⟨t, rfl, ht⟩⟩
    refine Fg.cS rfl (by decide) (fun ac w h => ?_) ?_
    ·have e61 : _ = Value.bool false := h.d 61
     obtain ⟨t66, e66, is_t66⟩ : ∃ t : Pt, ac.tmps.getD 66 undef = t.v ∧ PtIs t (nmul (num lx) (nmul (num ly) baseR)) := h.dep 66 (by kernel_rfl)
     obtain ⟨t69, e69, is_t69⟩ : ∃ t : Pt, ac.tmps.getD 69 undef = t.v ∧ PtIs t (nmul (num lp) baseR) := h.dep 69 (by kernel_rfl)
     refine ⟨wants_some (d := 61) rfl rfl (by rw [h.size]; show 61 < 116; decide) e61, 9, #[t66.v, t69.v], Fg.run_call rfl rfl (by simp only [List.map_toArray, List.map_cons, List.map_nil, Act.eval, e66, e69]) (Fg.run_enter Tryd.func9 (by kernel_rfl) (by kernel_rfl)), ?_⟩
     exact (edSameIs (b := true) _ is_t66 is_t69 (yes_of (often2 HMp.out))).mono fun _ _ ⟨he, hg⟩ => ⟨_, he, hg, rfl⟩
    refine Fg.vS rfl (by decide) (fun ac w h => ?_) ?_
    ·have e61 : _ = Value.bool false := h.d 61
     have e70 : _ = Value.bool true := h.d 70
     refine ⟨wants_some (d := 61) rfl rfl (by rw [h.size]; show 61 < 116; decide) e61, Value.bool false, w, ?_, gb_refl _ _, rfl⟩
     clear h
     simp only [execOp, Act.eval, e70]
     go_simp
    refine Fg.vS rfl (by decide) (fun ac w h => ?_) ?_
    ·have e61 : _ = Value.bool false := h.d 61
     have e71 : _ = Value.bool false := h.d 71
     refine ⟨wants_none rfl, Value.bool false, w, ?_, gb_refl _ _, rfl⟩
     clear h
     simp only [execOp, Act.eval, e61, e71]
     go_simp
    trivial
   ·intro qa V4 g4 hsz hdf hrest hslots hpt
    obtain ⟨u40, hs40⟩ := Fg.slotv qa 40
    obtain ⟨u41, hs41⟩ := Fg.slotv qa 41
    obtain ⟨u42, hs42⟩ := Fg.slotv qa 42
    obtain ⟨u43, hs43⟩ := Fg.slotv qa 43
    obtain ⟨u44, hs44⟩ := Fg.slotv qa 44
    obtain ⟨u45, hs45⟩ := Fg.slotv qa 45
    obtain ⟨u46, hs46⟩ := Fg.slotv qa 46
    obtain ⟨u47, hs47⟩ := Fg.slotv qa 47
    obtain ⟨u48, hs48⟩ := Fg.slotv qa 48
    obtain ⟨u49, hs49⟩ := Fg.slotv qa 49
    obtain ⟨u50, hs50⟩ := Fg.slotv qa 50
    obtain ⟨u51, hs51⟩ := Fg.slotv qa 51
    obtain ⟨u52, hs52⟩ := Fg.slotv qa 52
    obtain ⟨u53, hs53⟩ := Fg.slotv qa 53
    obtain ⟨u54, hs54⟩ := Fg.slotv qa 54
    obtain ⟨u55, hs55⟩ := Fg.slotv qa 55
    obtain ⟨u56, hs56⟩ := Fg.slotv qa 56
    obtain ⟨u57, hs57⟩ := Fg.slotv qa 57
    obtain ⟨u58, hs58⟩ := Fg.slotv qa 58
    obtain ⟨u59, hs59⟩ := Fg.slotv qa 59
    obtain ⟨u60, hs60⟩ := Fg.slotv qa 60
    obtain ⟨u61, hs61⟩ := Fg.slotv qa 61
    obtain ⟨u62, hs62⟩ := Fg.slotv qa 62
    obtain ⟨u63, hs63⟩ := Fg.slotv qa 63
    obtain ⟨u64, hs64⟩ := Fg.slotv qa 64
    obtain ⟨u65, hs65⟩ := Fg.slotv qa 65
    obtain ⟨u66, hs66⟩ := Fg.slotv qa 66
    obtain ⟨u67, hs67⟩ := Fg.slotv qa 67
    obtain ⟨u68, hs68⟩ := Fg.slotv qa 68
    obtain ⟨u69, hs69⟩ := Fg.slotv qa 69
    obtain ⟨u70, hs70⟩ := Fg.slotv qa 70
    obtain ⟨u71, hs71⟩ := Fg.slotv qa 71
    obtain rfl := Fg.frame_by [40, 41, 42, 43, 44, 45, 46, 47, 48, 49, 50, 51, 52, 53, 54, 55, 56, 57, 58, 59, 60, 61, 62, 63, 64, 65, 66, 67, 68, 69, 70, 71, 72] (vs := [Value.slice a0 n0 c0, Value.slice a1 n1 c1, Value.slice a2 n2 c2, undef, undef, undef, Value.bool false, Value.slice (some ⟨gx, 0, none⟩) 32 32, Value.slice (some ⟨gy, 0, none⟩) 32 32, Value.slice (some ⟨go, 0, none⟩) 32 co, Value.slice (some ⟨gz, 0, none⟩) 32 cz, Value.pointer (some ⟨N11, 0, none⟩), Value.slice (some ⟨gs, 0, none⟩) 32 32, Value.slice (some ⟨gp, 0, none⟩) 32 32, undef, undef, undef, u17, u18, u19, u20, u21, u22, u23, u24, u25, u26, u27, u28, u29, u30, u31, u32, u33, u34, u35, u36, u37, u38, baseT.v, u40, u41, u42, u43, u44, u45, u46, u47, u48, u49, u50, u51, u52, u53, u54, u55, u56, u57, u58, u59, u60, u61, u62, u63, u64, u65, u66, u67, u68, u69, u70, u71, Value.bool false, undef, undef, undef, undef, undef, undef, undef, undef, undef, undef, undef, undef, undef, undef, undef, undef, undef, undef, undef, undef, undef, undef, undef, undef, undef, undef, undef, undef, undef, undef, undef, undef, undef, undef, undef, undef, undef, undef, undef, undef, undef, undef, undef]) hsz hrest (by kernel_rfl) rfl rfl ⟨hs40, hs41, hs42, hs43, hs44, hs45, hs46, hs47, hs48, hs49, hs50, hs51, hs52, hs53, hs54, hs55, hs56, hs57, hs58, hs59, hs60, hs61, hs62, hs63, hs64, hs65, hs66, hs67, hs68, hs69, hs70, hs71, (show qa.tmps.getD 72 undef = Value.bool false from hslots 72 (by kernel_rfl)), trivial⟩ hdf
    clear hsz hdf hrest hslots hpt hs40 hs41 hs42 hs43 hs44 hs45 hs46 hs47 hs48 hs49 hs50 hs51 hs52 hs53 hs54 hs55 hs56 hs57 hs58 hs59 hs60 hs61 hs62 hs63 hs64 hs65 hs66 hs67 hs68 hs69 hs70 hs71
    replace hbx := hbx.gn g4
    replace hby := hby.gn g4
    replace hbo := hbo.gn g4
    replace hbz := hbz.gn g4
    replace hb11 := hb11.gn g4
    replace hbs := hbs.gn g4
    replace hbp := hbp.gn g4
    replace G := gb_trans G g4
    replace HT := HT.grown g4
    clear g4
    go_upto_region 11 with (fail)
    refine wp_region_lit ?_
    refine Fg.wpl_value (v := .slice a2 n2 c2) (w' := V4) rfl (Fg.run_move rfl rfl) ?_
    simp only [Act.put, List.setIfInBounds_toArray, List.set_cons_succ, List.set_cons_zero]
    have l10hbx := hbx.lt
    have l10hby := hby.lt
    have l10hbo := hbo.lt
    have l10hbz := hbz.lt
    have l10hb11 := hb11.lt
    have l10hbs := hbs.lt
    have l10hbp := hbp.lt
    refine Fg.wpl_call rfl (Fg.run_call (vs := #[.slice a2 n2 c2]) rfl rfl (by simp only [List.map_toArray, List.map_cons, List.map_nil, Act.eval]; rfl) (Fg.run_enter Tryd.func7 (by kernel_rfl) (by kernel_rfl))) ?_
    refine (point4_any B n2 c2 a2 l2 V4 HT hl2 hn2 (Lib.hid (HP2.out.stay G))).mono ?_
    rintro e A8 ⟨r, t4, ht4, rfl, ga⟩
    refine ⟨_, rfl, ?_⟩
    replace hbx := hbx.gn ga
    replace hby := hby.gn ga
    replace hbo := hbo.gn ga
    replace hbz := hbz.gn ga
    replace hb11 := hb11.gn ga
    replace hbs := hbs.gn ga
    replace hbp := hbp.gn ga
    replace G := gb_trans G ga
    replace HT := HT.grown ga
    clear ga
    simp only [Act.put, List.setIfInBounds_toArray, List.set_cons_succ, List.set_cons_zero]
    refine Fg.wpl_value (v := .pointer (some ⟨A8.heap.size, 0, none⟩)) (w' := A8.alloc (.cells zr20.toArray 28)) rfl (by go_simp) ?_
    simp only [Act.put, List.setIfInBounds_toArray, List.set_cons_succ, List.set_cons_zero]
    have hw14 : w0.heap.size ≤ A8.heap.size := G.size
    have hb14 := Blk.new A8 zr20 28
    have l11hbx := hbx.lt
    have l11hby := hby.lt
    have l11hbo := hbo.lt
    have l11hbz := hbz.lt
    have l11hb11 := hb11.lt
    have l11hbs := hbs.lt
    have l11hbp := hbp.lt
    have ga14 := gb_alloc (gb_refl A8 none) (.cells zr20.toArray 28)
    replace hbx := hbx.gn ga14
    replace hby := hby.gn ga14
    replace hbo := hbo.gn ga14
    replace hbz := hbz.gn ga14
    replace hb11 := hb11.gn ga14
    replace hbs := hbs.gn ga14
    replace hbp := hbp.gn ga14
    replace G := gb_trans G ga14
    replace HT := HT.grown ga14
    clear ga14
    obtain ⟨N14, hN14⟩ : ∃ x, x = A8.heap.size := ⟨_, rfl⟩
    rw [← hN14] at hb14 hw14 ⊢
    rw [← hN14] at l11hbx l11hby l11hbo l11hbz l11hb11 l11hbs l11hbp
    revert hbx hby hbo hbz hb11 hbs hbp G HT hb14
    generalize (A8.alloc (.cells zr20.toArray 28)) = A9
    intro hbx hby hbo hbz hb11 hbs hbp G HT hb14
    clear hN14
    refine Fg.wpl_skip rfl rfl (Fg.run_store (cs := ptL t4) rfl rfl rfl (hb14.there 0 20 (by show 0 + 20 ≤ 20; decide)) info_point (ptL_one _)) ?_
    replace hbx := hbx.setCells_other (C := N14) (cs := ptL t4) 0 (by omega)
    replace hby := hby.setCells_other (C := N14) (cs := ptL t4) 0 (by omega)
    replace hbo := hbo.setCells_other (C := N14) (cs := ptL t4) 0 (by omega)
    replace hbz := hbz.setCells_other (C := N14) (cs := ptL t4) 0 (by omega)
    replace hb11 := hb11.setCells_other (C := N14) (cs := ptL t4) 0 (by omega)
    replace hbs := hbs.setCells_other (C := N14) (cs := ptL t4) 0 (by omega)
    replace hbp := hbp.setCells_other (C := N14) (cs := ptL t4) 0 (by omega)
    replace hb14 : Blk (A9.setCells N14 0 (ptL t4)) N14 28 (ptL t4) := hb14.setAll rfl
    replace G := gb_setCells_new (cs := ptL t4) G (B := N14) (hw14) 0
    replace HT := HT.keep (gb_setCells (cs := ptL t4) (gb_refl _ (some N14)) 0) (HT0.noG (hw14))
    revert hbx hby hbo hbz hb11 hbs hbp hb14 G HT
    generalize A9.setCells N14 0 (ptL t4) = W5
    intro hbx hby hbo hbz hb11 hbs hbp hb14 G HT
    refine wpList_nil ?_
    go_upto_region 12 with (fail)
    refine wp_region_lit ?_
    refine Fg.wpl_value (v := .slice a0 n0 c0) (w' := W5) rfl (Fg.run_move rfl rfl) ?_
    simp only [Act.put, List.setIfInBounds_toArray, List.set_cons_succ, List.set_cons_zero]
    have l12hbx := hbx.lt
    have l12hby := hby.lt
    have l12hbo := hbo.lt
    have l12hbz := hbz.lt
    have l12hb11 := hb11.lt
    have l12hbs := hbs.lt
    have l12hbp := hbp.lt
    have l12hb14 := hb14.lt
    refine Fg.wpl_call rfl (Fg.run_call (vs := #[.slice a0 n0 c0]) rfl rfl (by simp only [List.map_toArray, List.map_cons, List.map_nil, Act.eval]; rfl) (Fg.run_enter Tryd.func17 (by kernel_rfl) (by kernel_rfl))) ?_
    refine (fold_any B n0 c0 a0 l0 W5 hl0 (HP0.out.stay G)).mono ?_
    rintro e A10 ⟨ln, hln, hltn, ho⟩
    obtain ⟨gn, yn, rfl, ga, hnn, hbn⟩ := outB_row ho hln
    refine ⟨_, rfl, ?_⟩
    clear ho
    have hwn : w0.heap.size ≤ gn := Nat.le_trans G.size hnn
    replace hbx := hbx.gn ga
    replace hby := hby.gn ga
    replace hbo := hbo.gn ga
    replace hbz := hbz.gn ga
    replace hb11 := hb11.gn ga
    replace hbs := hbs.gn ga
    replace hbp := hbp.gn ga
    replace hb14 := hb14.gn ga
    replace G := gb_trans G ga
    replace HT := HT.grown ga
    clear ga
    simp only [Act.put, List.setIfInBounds_toArray, List.set_cons_succ, List.set_cons_zero]
    refine Fg.wpl_value (v := .slice (some ⟨gn, 0, none⟩) 32 32) (w' := A10) rfl (Fg.run_assign rfl rfl) ?_
    simp only [Act.put, List.setIfInBounds_toArray, List.set_cons_succ, List.set_cons_zero]
    refine wpList_nil ?_
    obtain ⟨v, hv⟩ : ∃ v, v = ln.getD 0 0 := ⟨_, rfl⟩
    have hv256 : v < 256 := by rw [hv]; exact hltn 0
    have HV := Lib.hid hv; clear hv
    have hcb := clear_bit v hv256
    have hsb := set_bit v hv256
    have hcell := first_cell hbn hln
    have hfree := hbn.free 0
    have l13hbx := hbx.lt
    have l13hby := hby.lt
    have l13hbo := hbo.lt
    have l13hbz := hbz.lt
    have l13hb11 := hb11.lt
    have l13hbs := hbs.lt
    have l13hbp := hbp.lt
    have l13hb14 := hb14.lt
    have l13hbn := hbn.lt
    rw [← HV.out] at hcell
    replace hbx := hbx.other (a := ⟨gn, 0, none⟩) (show gn ≠ gx by omega) (.int .u8 (((evenB v) : Nat) : Int))
    replace hby := hby.other (a := ⟨gn, 0, none⟩) (show gn ≠ gy by omega) (.int .u8 (((evenB v) : Nat) : Int))
    replace hbo := hbo.other (a := ⟨gn, 0, none⟩) (show gn ≠ go by omega) (.int .u8 (((evenB v) : Nat) : Int))
    replace hbz := hbz.other (a := ⟨gn, 0, none⟩) (show gn ≠ gz by omega) (.int .u8 (((evenB v) : Nat) : Int))
    replace hb11 := hb11.other (a := ⟨gn, 0, none⟩) (show gn ≠ N11 by omega) (.int .u8 (((evenB v) : Nat) : Int))
    replace hbs := hbs.other (a := ⟨gn, 0, none⟩) (show gn ≠ gs by omega) (.int .u8 (((evenB v) : Nat) : Int))
    replace hbp := hbp.other (a := ⟨gn, 0, none⟩) (show gn ≠ gp by omega) (.int .u8 (((evenB v) : Nat) : Int))
    replace hb14 := hb14.other (a := ⟨gn, 0, none⟩) (show gn ≠ N14 by omega) (.int .u8 (((evenB v) : Nat) : Int))
    replace hbn : Blk (A10.setCell ⟨gn, 0, none⟩ (.int .u8 (((evenB v) : Nat) : Int))) gn 5 ((ln.set 0 ((evenB v))).map u8N ++ yn) := set_row (x := (evenB v)) hbn hln
    replace HT := HT.keep (gb_set (gb_refl A10 (some gn)) 0 (.int .u8 (((evenB v) : Nat) : Int))) (HT0.noG hwn)
    replace G := gb_set_new G (p := ⟨gn, 0, none⟩) hwn (.int .u8 (((evenB v) : Nat) : Int))
    have HA := Lib.hid (And.intro hbx (And.intro hby (And.intro hbo (And.intro hbz (And.intro hb11 (And.intro hbs (And.intro hbp (And.intro hb14 (And.intro hbn (And.intro HT G))))))))))
    clear hbx hby hbo hbz hb11 hbs hbp hb14 hbn HT G
    have HA2 := Lib.hid (And.intro HT0 (And.intro HO0 ht4))
    clear HT0 HO0 ht4
    go_upto_region 14 with (fail)
    obtain ⟨hbx, hby, hbo, hbz, hb11, hbs, hbp, hb14, hbn, HT, G⟩ := HA.out; clear HA hcell hfree
    obtain ⟨HT0, HO0, ht4⟩ := HA2.out; clear HA2
    revert hbx hby hbo hbz hb11 hbs hbp hb14 hbn HT G
    generalize A10.setCell ⟨gn, 0, none⟩ (.int .u8 (((evenB v) : Nat) : Int)) = A11
    intro hbx hby hbo hbz hb11 hbs hbp hb14 hbn HT G
    have hltn2 : ∀ i, (ln.set 0 (evenB v)).getD i 0 < 256 := fun i => set_lt ln 0 _ hltn (even_lt hv256) i
    have hln2 : (ln.set 0 (evenB v)).length = 32 := by rw [List.length_set]; exact hln
    refine wp_region_lit ?_
    refine Fg.wpl_value (v := .slice (some ⟨gn, 0, none⟩) 32 32) (w' := A11) rfl (Fg.run_move rfl rfl) ?_
    simp only [Act.put, List.setIfInBounds_toArray, List.set_cons_succ, List.set_cons_zero]
    have l14hbx := hbx.lt
    have l14hby := hby.lt
    have l14hbo := hbo.lt
    have l14hbz := hbz.lt
    have l14hb11 := hb11.lt
    have l14hbs := hbs.lt
    have l14hbp := hbp.lt
    have l14hb14 := hb14.lt
    have l14hbn := hbn.lt
    refine Fg.wpl_call rfl (Fg.run_call (vs := #[.slice (some ⟨gn, 0, none⟩) 32 32]) rfl rfl (by simp only [List.map_toArray, List.map_cons, List.map_nil, Act.eval]; rfl) (Fg.run_enter Tryd.func22 (by kernel_rfl) (by kernel_rfl))) ?_
    refine (copyB_any _ 32 32 (some ⟨gn, 0, none⟩) (ln.set 0 (evenB v)) A11 hln2 (by decide) (by decide) (rowB hbn hln2 (by decide) (by decide) hltn2).out).mono ?_
    rintro e A12 ⟨gm, cm, rfl, ga, ho⟩
    refine ⟨_, rfl, ?_⟩
    obtain ⟨ym, hbm, hnm, h32m, hcm⟩ := own_row ho
    clear ho
    have hwm : w0.heap.size ≤ gm := Nat.le_trans G.size hnm
    replace hbx := hbx.gn ga
    replace hby := hby.gn ga
    replace hbo := hbo.gn ga
    replace hbz := hbz.gn ga
    replace hb11 := hb11.gn ga
    replace hbs := hbs.gn ga
    replace hbp := hbp.gn ga
    replace hb14 := hb14.gn ga
    replace hbn := hbn.gn ga
    replace G := gb_trans G ga
    replace HT := HT.grown ga
    clear ga
    simp only [Act.put, List.setIfInBounds_toArray, List.set_cons_succ, List.set_cons_zero]
    refine Fg.wpl_value (v := .slice (some ⟨gm, 0, none⟩) 32 cm) (w' := A12) rfl (Fg.run_assign rfl rfl) ?_
    simp only [Act.put, List.setIfInBounds_toArray, List.set_cons_succ, List.set_cons_zero]
    refine wpList_nil ?_
    have hcell := first_cell hbm hln2
    have hfree := hbm.free 0
    have l15hbx := hbx.lt
    have l15hby := hby.lt
    have l15hbo := hbo.lt
    have l15hbz := hbz.lt
    have l15hb11 := hb11.lt
    have l15hbs := hbs.lt
    have l15hbp := hbp.lt
    have l15hb14 := hb14.lt
    have l15hbn := hbn.lt
    have l15hbm := hbm.lt
    rw [set_get0 ln _ hln] at hcell
    replace hbx := hbx.other (a := ⟨gm, 0, none⟩) (show gm ≠ gx by omega) (.int .u8 (((evenB v : Nat) : Int) + 1))
    replace hby := hby.other (a := ⟨gm, 0, none⟩) (show gm ≠ gy by omega) (.int .u8 (((evenB v : Nat) : Int) + 1))
    replace hbo := hbo.other (a := ⟨gm, 0, none⟩) (show gm ≠ go by omega) (.int .u8 (((evenB v : Nat) : Int) + 1))
    replace hbz := hbz.other (a := ⟨gm, 0, none⟩) (show gm ≠ gz by omega) (.int .u8 (((evenB v : Nat) : Int) + 1))
    replace hb11 := hb11.other (a := ⟨gm, 0, none⟩) (show gm ≠ N11 by omega) (.int .u8 (((evenB v : Nat) : Int) + 1))
    replace hbs := hbs.other (a := ⟨gm, 0, none⟩) (show gm ≠ gs by omega) (.int .u8 (((evenB v : Nat) : Int) + 1))
    replace hbp := hbp.other (a := ⟨gm, 0, none⟩) (show gm ≠ gp by omega) (.int .u8 (((evenB v : Nat) : Int) + 1))
    replace hb14 := hb14.other (a := ⟨gm, 0, none⟩) (show gm ≠ N14 by omega) (.int .u8 (((evenB v : Nat) : Int) + 1))
    replace hbn := hbn.other (a := ⟨gm, 0, none⟩) (show gm ≠ gn by omega) (.int .u8 (((evenB v : Nat) : Int) + 1))
    replace hbm : Blk (A12.setCell ⟨gm, 0, none⟩ (.int .u8 (((evenB v : Nat) : Int) + 1))) gm 5 (((ln.set 0 (evenB v)).set 0 ((evenB v + 1))).map u8N ++ ym) := set_row (x := (evenB v + 1)) hbm hln2
    replace HT := HT.keep (gb_set (gb_refl A12 (some gm)) 0 (.int .u8 (((evenB v : Nat) : Int) + 1))) (HT0.noG hwm)
    replace G := gb_set_new G (p := ⟨gm, 0, none⟩) hwm (.int .u8 (((evenB v : Nat) : Int) + 1))
    have HA := Lib.hid (And.intro hbx (And.intro hby (And.intro hbo (And.intro hbz (And.intro hb11 (And.intro hbs (And.intro hbp (And.intro hb14 (And.intro hbn (And.intro hbm (And.intro HT G)))))))))))
    clear hbx hby hbo hbz hb11 hbs hbp hb14 hbn hbm HT G
    have HA2 := Lib.hid (And.intro HT0 (And.intro HO0 ht4))
    clear HT0 HO0 ht4
    go_upto_region 16 with (fail)
    obtain ⟨hbx, hby, hbo, hbz, hb11, hbs, hbp, hb14, hbn, hbm, HT, G⟩ := HA.out; clear HA hcell hfree
    obtain ⟨HT0, HO0, ht4⟩ := HA2.out; clear HA2
    revert hbx hby hbo hbz hb11 hbs hbp hb14 hbn hbm HT G
    generalize A12.setCell ⟨gm, 0, none⟩ (.int .u8 (((evenB v : Nat) : Int) + 1)) = A13
    intro hbx hby hbo hbz hb11 hbs hbp hb14 hbn hbm HT G
    have hltm2 : ∀ i, ((ln.set 0 (evenB v)).set 0 (evenB v + 1)).getD i 0 < 256 := fun i => set_lt _ 0 _ hltn2 (odd_lt hv256) i
    have hlm2 : ((ln.set 0 (evenB v)).set 0 (evenB v + 1)).length = 32 := by rw [List.length_set]; exact hln2
    have Gs5 := G.size
    have l16hbx := hbx.lt
    have l16hby := hby.lt
    have l16hbo := hbo.lt
    have l16hbz := hbz.lt
    have l16hb11 := hb11.lt
    have l16hbs := hbs.lt
    have l16hbp := hbp.lt
    have l16hb14 := hb14.lt
    have l16hbn := hbn.lt
    have l16hbm := hbm.lt
    refine Fg.rT [] [.any, .any, .any, .any, .any, .any, .val (Value.bool true), .any, .any, .any, .any, .any, .any, .any, .any, .any, .any, .any, .any, .any, .any, .any, .any, .any, .any, .any, .any, .any, .any, .any, .any, .any, .any, .any, .any, .any, .any, .any, .any, .any, .any, .any, .any, .any, .any, .any, .any, .any, .any, .any, .any, .any, .any, .any, .any, .any, .any, .any, .any, .any, .any, .any, .any, .any, .any, .any, .any, .any, .any, .any, .any, .any, .any, .any, .any, .any, .any, .any, .any, .any, .any, .any, .any, .any, .any, .any, .any, .any, .any, .any, .any, .val (Value.slice (some ⟨gn, 0, none⟩) 32 32), .val (t4.v), .stands (nmul (num (ln.set 0 (evenB v))) r), .val (t4.v), .pts [nmul (num (ln.set 0 (evenB v))) r, r] 2 A13.heap.size, .stands (sumPr [nmul (num (ln.set 0 (evenB v))) r, r]), .val (Value.slice (some ⟨gm, 0, none⟩) 32 cm), .val (t4.v), .stands (nmul (num ((ln.set 0 (evenB v)).set 0 (evenB v + 1))) r), .val (Value.bool true), .val (Value.bool true), .val (Value.slice (some ⟨gx, 0, none⟩) 32 32), .val (t4.v), .val (Value.slice (some ⟨gy, 0, none⟩) 32 32), .stands (Ed.add (nmul (num lx) r) (nmul (num ly) baseR)), .val (Value.slice (some ⟨gx, 0, none⟩) 32 32), .val (t4.v), .stands (nmul (num lx) r), .val (Value.slice (some ⟨gy, 0, none⟩) 32 32), .val (baseT.v), .stands (nmul (num ly) baseR), .pts [nmul (num lx) r, nmul (num ly) baseR] 2 A13.heap.size, .stands (sumPr [nmul (num lx) r, nmul (num ly) baseR]), .val (Value.bool true), .val (Value.bool true)] 26 ?_ ?_
    ·refine Fg.vS rfl (by decide) (fun ac w h => ?_) ?_
     ·have e15 : _ = Value.slice (some ⟨gn, 0, none⟩) 32 32 := h.r 15
      exact Fg.vn (Value.slice (some ⟨gn, 0, none⟩) 32 32) (Fg.run_move rfl e15)
     refine Fg.vS rfl (by decide) (fun ac w h => ?_) ?_
     ·have e14 : _ = Value.pointer (some ⟨N14, 0, none⟩) := h.r 14
      exact Fg.vn t4.v (Fg.run_load rfl e14 ((hb14.gn h.base).range 0 (ptL t4) rfl) Tryd.underlying28 rfl info_point)
     refine Fg.cS rfl (by decide) (fun ac w h => ?_) ?_
     ·have e91 : _ = Value.slice (some ⟨gn, 0, none⟩) 32 32 := h.d 91
      have e92 : _ = t4.v := h.d 92
      refine ⟨wants_none rfl, 21, #[Value.slice (some ⟨gn, 0, none⟩) 32 32, t4.v], Fg.run_call rfl rfl (by simp only [List.map_toArray, List.map_cons, List.map_nil, Act.eval, e91, e92]) (Fg.run_enter Tryd.func21 (by kernel_rfl) (by kernel_rfl)), ?_⟩
      exact (edMul t4 r (ln.set 0 (evenB v)) 32 _ (some ⟨gn, 0, none⟩) _ (HT.grown h.base) ht4 hln2 (rowB (hbn.gn h.base) hln2 (by decide) (by decide) hltn2)).mono fun _ _ ⟨t, ht, he, hg⟩ => ⟨_, he, hg, ⟨t, rfl, ht⟩⟩
     refine Fg.vS rfl (by decide) (fun ac w h => ?_) ?_
     ·have e14 : _ = Value.pointer (some ⟨N14, 0, none⟩) := h.r 14
      exact Fg.vn t4.v (Fg.run_load rfl e14 ((hb14.gn h.base).range 0 (ptL t4) rfl) Tryd.underlying28 rfl info_point)
     refine Fg.vS rfl (by decide) (fun ac w h => ?_) ?_
     ·obtain ⟨t93, e93, is_t93⟩ : ∃ t : Pt, ac.tmps.getD 93 undef = t.v ∧ PtIs t (nmul (num (ln.set 0 (evenB v))) r) := h.dep 93 (by kernel_rfl)
      have e94 : _ = t4.v := h.d 94
      exact ⟨wants_none rfl, .slice (some ⟨w.heap.size, 0, none⟩) 2 2, w.alloc (.cells (ptsL [t93, t4]).toArray 28), Fg.run_buildSlice (vs := #[(0, t93.v), (1, t4.v)]) rfl (by simp only [List.map_toArray, List.map_cons, List.map_nil, Act.eval, e93, e94]) (by kernel_rfl), World.grownBy_alloc _ _ _, ⟨w.heap.size, _, rfl, h.base.size, (ptsAre_c is_t93 (ptsAre_c ht4 ptsAre_0)), Blk.new w (ptsL [t93, t4]) _⟩⟩
     refine Fg.cS rfl (by decide) (fun ac w h => ?_) ?_
     ·obtain ⟨B95, LB95, e95, hn95, ar_B95, b_B95⟩ : ∃ (N : Nat) (L : List Pt), ac.tmps.getD 95 undef = .slice (some ⟨N, 0, none⟩) 2 2 ∧ A13.heap.size ≤ N ∧ PtsAre L [nmul (num (ln.set 0 (evenB v))) r, r] ∧ Blk w N 28 (ptsL L) := h.dep 95 (by kernel_rfl)
      refine ⟨wants_none rfl, 8, #[Value.slice (some ⟨B95, 0, none⟩) 2 2], Fg.run_call rfl rfl (by simp only [List.map_toArray, List.map_cons, List.map_nil, Act.eval, e95]) (Fg.run_enter Tryd.func8 (by kernel_rfl) (by kernel_rfl)), ?_⟩
      exact (edAddIs B95 2 LB95 [nmul (num (ln.set 0 (evenB v))) r, r] _ (HT.grown h.base) rfl (by decide) (by decide) ar_B95 b_B95).mono fun _ _ ⟨t, ht, he, hg⟩ => ⟨_, he, hg, ⟨t, rfl, ht⟩⟩
     refine Fg.vS rfl (by decide) (fun ac w h => ?_) ?_
     ·have e16 : _ = Value.slice (some ⟨gm, 0, none⟩) 32 cm := h.r 16
      exact Fg.vn (Value.slice (some ⟨gm, 0, none⟩) 32 cm) (Fg.run_move rfl e16)
     refine Fg.vS rfl (by decide) (fun ac w h => ?_) ?_
     ·have e14 : _ = Value.pointer (some ⟨N14, 0, none⟩) := h.r 14
      exact Fg.vn t4.v (Fg.run_load rfl e14 ((hb14.gn h.base).range 0 (ptL t4) rfl) Tryd.underlying28 rfl info_point)
     refine Fg.cS rfl (by decide) (fun ac w h => ?_) ?_
     ·have e97 : _ = Value.slice (some ⟨gm, 0, none⟩) 32 cm := h.d 97
      have e98 : _ = t4.v := h.d 98
      refine ⟨wants_none rfl, 21, #[Value.slice (some ⟨gm, 0, none⟩) 32 cm, t4.v], Fg.run_call rfl rfl (by simp only [List.map_toArray, List.map_cons, List.map_nil, Act.eval, e97, e98]) (Fg.run_enter Tryd.func21 (by kernel_rfl) (by kernel_rfl)), ?_⟩
      exact (edMul t4 r ((ln.set 0 (evenB v)).set 0 (evenB v + 1)) cm _ (some ⟨gm, 0, none⟩) _ (HT.grown h.base) ht4 hlm2 (rowB (hbm.gn h.base) hlm2 h32m hcm hltm2)).mono fun _ _ ⟨t, ht, he, hg⟩ => ⟨_, he, hg, ⟨t, rfl, ht⟩⟩
     refine Fg.cS rfl (by decide) (fun ac w h => ?_) ?_
     ·obtain ⟨t96, e96, is_t96⟩ : ∃ t : Pt, ac.tmps.getD 96 undef = t.v ∧ PtIs t (sumPr [nmul (num (ln.set 0 (evenB v))) r, r]) := h.dep 96 (by kernel_rfl)
      obtain ⟨t99, e99, is_t99⟩ : ∃ t : Pt, ac.tmps.getD 99 undef = t.v ∧ PtIs t (nmul (num ((ln.set 0 (evenB v)).set 0 (evenB v + 1))) r) := h.dep 99 (by kernel_rfl)
      refine ⟨wants_none rfl, 9, #[t96.v, t99.v], Fg.run_call rfl rfl (by simp only [List.map_toArray, List.map_cons, List.map_nil, Act.eval, e96, e99]) (Fg.run_enter Tryd.func9 (by kernel_rfl) (by kernel_rfl)), ?_⟩
      exact (edSameIs (b := true) _ is_t96 is_t99 (yes_of (often3 (num_more ln (evenB v) hln)))).mono fun _ _ ⟨he, hg⟩ => ⟨_, he, hg, rfl⟩
     refine Fg.vS rfl (by decide) (fun ac w h => ?_) ?_
     ·have e100 : _ = Value.bool true := h.d 100
      exact Fg.vn (Value.bool true) (Fg.run_move rfl e100)
     refine Fg.vS rfl (by decide) (fun ac w h => ?_) ?_
     ·have e101 : _ = Value.bool true := h.d 101
      have e7 : _ = Value.slice (some ⟨gx, 0, none⟩) 32 32 := h.r 7
      exact Fg.vx (Value.slice (some ⟨gx, 0, none⟩) 32 32) (wants_some (d := 101) rfl rfl (by rw [h.size]; show 101 < 116; decide) e101) (Fg.run_move rfl e7)
     refine Fg.vS rfl (by decide) (fun ac w h => ?_) ?_
     ·have e101 : _ = Value.bool true := h.d 101
      have e14 : _ = Value.pointer (some ⟨N14, 0, none⟩) := h.r 14
      exact Fg.vx t4.v (wants_some (d := 101) rfl rfl (by rw [h.size]; show 101 < 116; decide) e101) (Fg.run_load rfl e14 ((hb14.gn h.base).range 0 (ptL t4) rfl) Tryd.underlying28 rfl info_point)
     refine Fg.vS rfl (by decide) (fun ac w h => ?_) ?_
     ·have e101 : _ = Value.bool true := h.d 101
      have e8 : _ = Value.slice (some ⟨gy, 0, none⟩) 32 32 := h.r 8
      exact Fg.vx (Value.slice (some ⟨gy, 0, none⟩) 32 32) (wants_some (d := 101) rfl rfl (by rw [h.size]; show 101 < 116; decide) e101) (Fg.run_move rfl e8)
     refine Fg.cS rfl (by decide) (fun ac w h => ?_) ?_
     ·have e101 : _ = Value.bool true := h.d 101
      have e102 : _ = Value.slice (some ⟨gx, 0, none⟩) 32 32 := h.d 102
      have e103 : _ = t4.v := h.d 103
      have e104 : _ = Value.slice (some ⟨gy, 0, none⟩) 32 32 := h.d 104
      refine ⟨wants_some (d := 101) rfl rfl (by rw [h.size]; show 101 < 116; decide) e101, 23, #[Value.slice (some ⟨gx, 0, none⟩) 32 32, t4.v, Value.slice (some ⟨gy, 0, none⟩) 32 32], Fg.run_call rfl rfl (by simp only [List.map_toArray, List.map_cons, List.map_nil, Act.eval, e102, e103, e104]) (Fg.run_enter Tryd.func23 (by kernel_rfl) (by kernel_rfl)), ?_⟩
      exact (edBoth t4 r lx ly 32 32 _ _ (some ⟨gx, 0, none⟩) (some ⟨gy, 0, none⟩) _ (HT.grown h.base) ht4 hlx hly (rowB (hbx.gn h.base) hlx (by decide) (by decide) hltx) (rowB (hby.gn h.base) hly (by decide) (by decide) hlty)).mono fun _ _ ⟨t, ht, he, hg⟩ => ⟨_, he, hg, ⟨t, rfl, ht⟩⟩
     refine Fg.vS rfl (by decide) (fun ac w h => ?_) ?_
     ·have e101 : _ = Value.bool true := h.d 101
      have e7 : _ = Value.slice (some ⟨gx, 0, none⟩) 32 32 := h.r 7
      exact Fg.vx (Value.slice (some ⟨gx, 0, none⟩) 32 32) (wants_some (d := 101) rfl rfl (by rw [h.size]; show 101 < 116; decide) e101) (Fg.run_move rfl e7)
     refine Fg.vS rfl (by decide) (fun ac w h => ?_) ?_
     ·have e101 : _ = Value.bool true := h.d 101
      have e14 : _ = Value.pointer (some ⟨N14, 0, none⟩) := h.r 14
      exact Fg.vx t4.v (wants_some (d := 101) rfl rfl (by rw [h.size]; show 101 < 116; decide) e101) (Fg.run_load rfl e14 ((hb14.gn h.base).range 0 (ptL t4) rfl) Tryd.underlying28 rfl info_point)
     refine Fg.cS rfl (by decide) (fun ac w h => ?_) ?_
     ·have e101 : _ = Value.bool true := h.d 101
      have e106 : _ = Value.slice (some ⟨gx, 0, none⟩) 32 32 := h.d 106
      have e107 : _ = t4.v := h.d 107
      refine ⟨wants_some (d := 101) rfl rfl (by rw [h.size]; show 101 < 116; decide) e101, 21, #[Value.slice (some ⟨gx, 0, none⟩) 32 32, t4.v], Fg.run_call rfl rfl (by simp only [List.map_toArray, List.map_cons, List.map_nil, Act.eval, e106, e107]) (Fg.run_enter Tryd.func21 (by kernel_rfl) (by kernel_rfl)), ?_⟩
      exact (edMul t4 r lx 32 _ (some ⟨gx, 0, none⟩) _ (HT.grown h.base) ht4 hlx (rowB (hbx.gn h.base) hlx (by decide) (by decide) hltx)).mono fun _ _ ⟨t, ht, he, hg⟩ => ⟨_, he, hg, ⟨t, rfl, ht⟩⟩
     refine Fg.vS rfl (by decide) (fun ac w h => ?_) ?_
     ·have e101 : _ = Value.bool true := h.d 101
      have e8 : _ = Value.slice (some ⟨gy, 0, none⟩) 32 32 := h.r 8
      exact Fg.vx (Value.slice (some ⟨gy, 0, none⟩) 32 32) (wants_some (d := 101) rfl rfl (by rw [h.size]; show 101 < 116; decide) e101) (Fg.run_move rfl e8)
     refine Fg.vS rfl (by decide) (fun ac w h => ?_) ?_
     ·have e101 : _ = Value.bool true := h.d 101
      have e11 : _ = Value.pointer (some ⟨N11, 0, none⟩) := h.r 11
      exact Fg.vx baseT.v (wants_some (d := 101) rfl rfl (by rw [h.size]; show 101 < 116; decide) e101) (Fg.run_load rfl e11 ((hb11.gn h.base).range 0 (ptL baseT) rfl) Tryd.underlying28 rfl info_point)
     refine Fg.cS rfl (by decide) (fun ac w h => ?_) ?_
     ·have e101 : _ = Value.bool true := h.d 101
      have e109 : _ = Value.slice (some ⟨gy, 0, none⟩) 32 32 := h.d 109
      have e110 : _ = baseT.v := h.d 110
      refine ⟨wants_some (d := 101) rfl rfl (by rw [h.size]; show 101 < 116; decide) e101, 21, #[Value.slice (some ⟨gy, 0, none⟩) 32 32, baseT.v], Fg.run_call rfl rfl (by simp only [List.map_toArray, List.map_cons, List.map_nil, Act.eval, e109, e110]) (Fg.run_enter Tryd.func21 (by kernel_rfl) (by kernel_rfl)), ?_⟩
      exact (edMul baseT baseR ly 32 _ (some ⟨gy, 0, none⟩) _ (HT.grown h.base) baseIs hly (rowB (hby.gn h.base) hly (by decide) (by decide) hlty)).mono fun _ _ ⟨t, ht, he, hg⟩ => ⟨_, he, hg, ⟨t, rfl, ht⟩⟩
     refine Fg.vS rfl (by decide) (fun ac w h => ?_) ?_
     ·have e101 : _ = Value.bool true := h.d 101
      obtain ⟨t108, e108, is_t108⟩ : ∃ t : Pt, ac.tmps.getD 108 undef = t.v ∧ PtIs t (nmul (num lx) r) := h.dep 108 (by kernel_rfl)
      obtain ⟨t111, e111, is_t111⟩ : ∃ t : Pt, ac.tmps.getD 111 undef = t.v ∧ PtIs t (nmul (num ly) baseR) := h.dep 111 (by kernel_rfl)
      exact ⟨wants_some (d := 101) rfl rfl (by rw [h.size]; show 101 < 116; decide) e101, .slice (some ⟨w.heap.size, 0, none⟩) 2 2, w.alloc (.cells (ptsL [t108, t111]).toArray 28), Fg.run_buildSlice (vs := #[(0, t108.v), (1, t111.v)]) rfl (by simp only [List.map_toArray, List.map_cons, List.map_nil, Act.eval, e108, e111]) (by kernel_rfl), World.grownBy_alloc _ _ _, ⟨w.heap.size, _, rfl, h.base.size, (ptsAre_c is_t108 (ptsAre_c is_t111 ptsAre_0)), Blk.new w (ptsL [t108, t111]) _⟩⟩
     refine Fg.cS rfl (by decide) (fun ac w h => ?_) ?_
     ·have e101 : _ = Value.bool true := h.d 101
      obtain ⟨B112, LB112, e112, hn112, ar_B112, b_B112⟩ : ∃ (N : Nat) (L : List Pt), ac.tmps.getD 112 undef = .slice (some ⟨N, 0, none⟩) 2 2 ∧ A13.heap.size ≤ N ∧ PtsAre L [nmul (num lx) r, nmul (num ly) baseR] ∧ Blk w N 28 (ptsL L) := h.dep 112 (by kernel_rfl)
      refine ⟨wants_some (d := 101) rfl rfl (by rw [h.size]; show 101 < 116; decide) e101, 8, #[Value.slice (some ⟨B112, 0, none⟩) 2 2], Fg.run_call rfl rfl (by simp only [List.map_toArray, List.map_cons, List.map_nil, Act.eval, e112]) (Fg.run_enter Tryd.func8 (by kernel_rfl) (by kernel_rfl)), ?_⟩
      exact (edAddIs B112 2 LB112 [nmul (num lx) r, nmul (num ly) baseR] _ (HT.grown h.base) rfl (by decide) (by decide) ar_B112 b_B112).mono fun _ _ ⟨t, ht, he, hg⟩ => ⟨_, he, hg, ⟨t, rfl, ht⟩⟩
     refine Fg.cS rfl (by decide) (fun ac w h => ?_) ?_
     ·have e101 : _ = Value.bool true := h.d 101
      obtain ⟨t105, e105, is_t105⟩ : ∃ t : Pt, ac.tmps.getD 105 undef = t.v ∧ PtIs t (Ed.add (nmul (num lx) r) (nmul (num ly) baseR)) := h.dep 105 (by kernel_rfl)
      obtain ⟨t113, e113, is_t113⟩ : ∃ t : Pt, ac.tmps.getD 113 undef = t.v ∧ PtIs t (sumPr [nmul (num lx) r, nmul (num ly) baseR]) := h.dep 113 (by kernel_rfl)
      refine ⟨wants_some (d := 101) rfl rfl (by rw [h.size]; show 101 < 116; decide) e101, 9, #[t105.v, t113.v], Fg.run_call rfl rfl (by simp only [List.map_toArray, List.map_cons, List.map_nil, Act.eval, e105, e113]) (Fg.run_enter Tryd.func9 (by kernel_rfl) (by kernel_rfl)), ?_⟩
      exact (edSameIs (b := true) _ is_t105 is_t113 (yes_of rfl)).mono fun _ _ ⟨he, hg⟩ => ⟨_, he, hg, rfl⟩
     refine Fg.vS rfl (by decide) (fun ac w h => ?_) ?_
     ·have e101 : _ = Value.bool true := h.d 101
      have e114 : _ = Value.bool true := h.d 114
      refine ⟨wants_none rfl, Value.bool true, w, ?_, gb_refl _ _, rfl⟩
      clear h
      simp only [execOp, Act.eval, e101, e114]
      go_simp
     refine Fg.vS rfl (by decide) (fun ac w h => ?_) ?_
     ·have e115 : _ = Value.bool true := h.d 115
      exact Fg.vn (Value.bool true) (Fg.run_assign rfl e115)
     trivial
    ·intro qa V6 g6 hsz hdf hrest hslots hpt
     obtain ⟨u73, hs73⟩ := Fg.slotv qa 73
     obtain ⟨u74, hs74⟩ := Fg.slotv qa 74
     obtain ⟨u75, hs75⟩ := Fg.slotv qa 75
     obtain ⟨u76, hs76⟩ := Fg.slotv qa 76
     obtain ⟨u77, hs77⟩ := Fg.slotv qa 77
     obtain ⟨u78, hs78⟩ := Fg.slotv qa 78
     obtain ⟨u79, hs79⟩ := Fg.slotv qa 79
     obtain ⟨u80, hs80⟩ := Fg.slotv qa 80
     obtain ⟨u81, hs81⟩ := Fg.slotv qa 81
     obtain ⟨u82, hs82⟩ := Fg.slotv qa 82
     obtain ⟨u83, hs83⟩ := Fg.slotv qa 83
     obtain ⟨u84, hs84⟩ := Fg.slotv qa 84
     obtain ⟨u85, hs85⟩ := Fg.slotv qa 85
     obtain ⟨u86, hs86⟩ := Fg.slotv qa 86
     obtain ⟨u87, hs87⟩ := Fg.slotv qa 87
     obtain ⟨u88, hs88⟩ := Fg.slotv qa 88
     obtain ⟨u89, hs89⟩ := Fg.slotv qa 89
     obtain ⟨u90, hs90⟩ := Fg.slotv qa 90
     obtain ⟨u91, hs91⟩ := Fg.slotv qa 91
     obtain ⟨u92, hs92⟩ := Fg.slotv qa 92
     obtain ⟨u93, hs93⟩ := Fg.slotv qa 93
     obtain ⟨u94, hs94⟩ := Fg.slotv qa 94
     obtain ⟨u95, hs95⟩ := Fg.slotv qa 95
     obtain ⟨u96, hs96⟩ := Fg.slotv qa 96
     obtain ⟨u97, hs97⟩ := Fg.slotv qa 97
     obtain ⟨u98, hs98⟩ := Fg.slotv qa 98
     obtain ⟨u99, hs99⟩ := Fg.slotv qa 99
     obtain ⟨u100, hs100⟩ := Fg.slotv qa 100
     obtain ⟨u101, hs101⟩ := Fg.slotv qa 101
     obtain ⟨u102, hs102⟩ := Fg.slotv qa 102
     obtain ⟨u103, hs103⟩ := Fg.slotv qa 103
     obtain ⟨u104, hs104⟩ := Fg.slotv qa 104
     obtain ⟨u105, hs105⟩ := Fg.slotv qa 105
     obtain ⟨u106, hs106⟩ := Fg.slotv qa 106
     obtain ⟨u107, hs107⟩ := Fg.slotv qa 107
     obtain ⟨u108, hs108⟩ := Fg.slotv qa 108
     obtain ⟨u109, hs109⟩ := Fg.slotv qa 109
     obtain ⟨u110, hs110⟩ := Fg.slotv qa 110
     obtain ⟨u111, hs111⟩ := Fg.slotv qa 111
     obtain ⟨u112, hs112⟩ := Fg.slotv qa 112
     obtain ⟨u113, hs113⟩ := Fg.slotv qa 113
     obtain ⟨u114, hs114⟩ := Fg.slotv qa 114
     obtain ⟨u115, hs115⟩ := Fg.slotv qa 115
     obtain rfl := Fg.frame_by [6, 73, 74, 75, 76, 77, 78, 79, 80, 81, 82, 83, 84, 85, 86, 87, 88, 89, 90, 91, 92, 93, 94, 95, 96, 97, 98, 99, 100, 101, 102, 103, 104, 105, 106, 107, 108, 109, 110, 111, 112, 113, 114, 115] (vs := [Value.slice a0 n0 c0, Value.slice a1 n1 c1, Value.slice a2 n2 c2, undef, undef, undef, Value.bool true, Value.slice (some ⟨gx, 0, none⟩) 32 32, Value.slice (some ⟨gy, 0, none⟩) 32 32, Value.slice (some ⟨go, 0, none⟩) 32 co, Value.slice (some ⟨gz, 0, none⟩) 32 cz, Value.pointer (some ⟨N11, 0, none⟩), Value.slice (some ⟨gs, 0, none⟩) 32 32, Value.slice (some ⟨gp, 0, none⟩) 32 32, Value.pointer (some ⟨N14, 0, none⟩), Value.slice (some ⟨gn, 0, none⟩) 32 32, Value.slice (some ⟨gm, 0, none⟩) 32 cm, u17, u18, u19, u20, u21, u22, u23, u24, u25, u26, u27, u28, u29, u30, u31, u32, u33, u34, u35, u36, u37, u38, baseT.v, u40, u41, u42, u43, u44, u45, u46, u47, u48, u49, u50, u51, u52, u53, u54, u55, u56, u57, u58, u59, u60, u61, u62, u63, u64, u65, u66, u67, u68, u69, u70, u71, Value.bool false, u73, u74, u75, u76, u77, u78, u79, u80, u81, u82, u83, u84, u85, u86, u87, u88, u89, u90, u91, u92, u93, u94, u95, u96, u97, u98, u99, u100, u101, u102, u103, u104, u105, u106, u107, u108, u109, u110, u111, u112, u113, u114, u115]) hsz hrest (by kernel_rfl) rfl rfl ⟨(show qa.tmps.getD 6 undef = Value.bool true from hslots 6 (by kernel_rfl)), hs73, hs74, hs75, hs76, hs77, hs78, hs79, hs80, hs81, hs82, hs83, hs84, hs85, hs86, hs87, hs88, hs89, hs90, hs91, hs92, hs93, hs94, hs95, hs96, hs97, hs98, hs99, hs100, hs101, hs102, hs103, hs104, hs105, hs106, hs107, hs108, hs109, hs110, hs111, hs112, hs113, hs114, hs115, trivial⟩ hdf
     clear hsz hdf hrest hslots hpt hs73 hs74 hs75 hs76 hs77 hs78 hs79 hs80 hs81 hs82 hs83 hs84 hs85 hs86 hs87 hs88 hs89 hs90 hs91 hs92 hs93 hs94 hs95 hs96 hs97 hs98 hs99 hs100 hs101 hs102 hs103 hs104 hs105 hs106 hs107 hs108 hs109 hs110 hs111 hs112 hs113 hs114 hs115
     replace hbx := hbx.gn g6
     replace hby := hby.gn g6
     replace hbo := hbo.gn g6
     replace hbz := hbz.gn g6
     replace hb11 := hb11.gn g6
     replace hbs := hbs.gn g6
     replace hbp := hbp.gn g6
     replace hb14 := hb14.gn g6
     replace hbn := hbn.gn g6
     replace hbm := hbm.gn g6
     replace G := gb_trans G g6
     replace HT := HT.grown g6
     clear g6
     go_wp2_with fail
     go_ret
     exact ⟨rfl, G⟩

end Go.Proofs.YtleegbaigedebaaDoor
