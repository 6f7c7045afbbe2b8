/- The document's field: From. -/
import Derived.Test.YtjgfhihngbhljaaDoorNrSub
namespace Go.Proofs.YtjgfhihngbhljaaDoor
open Go.RowKit Ns
namespace Nr
/-- what limbs stand for -/
def limbsV : List Nat → Nat
  | [] => 0
  | d :: r => d + 2251799813685248 * limbsV r
theorem and_low (x : Nat) (h : x < 18446744073709551616) : bits .and .u64 (x : Int) 4294967295 = ((x % 4294967296 : Nat) : Int) := by
  have e : (4294967295 : Int) = ((4294967295 : Nat) : Int) := rfl
  rw [e, u64_and_nat _ _ (by omega) (by decide), show (4294967295 : Nat) = 2 ^ 32 - 1 from rfl, Nat.and_two_pow_sub_one_eq_mod]
/-- amid the limbs -/
structure FromI (e : List Nat) (k : Nat) (l : List Nat) : Prop where
  len : l.length = 16
  val : V l = limbsV (e.take k)
  low : ∀ j, l.getD j 0 < 2 ^ 60
  rest : ∀ j, 3 * k ≤ j → l.getD j 0 = 0
theorem FromI.start (e : List Nat) : FromI e 0 zeros := ⟨rfl, by rw [V_zeros]; rfl, fun j => by rw [zeros_get]; decide, fun j _ => zeros_get j⟩
theorem limbsV_succ (e : List Nat) (k : Nat) (h : k < e.length) : limbsV (e.take (k + 1)) = limbsV (e.take k) + 2251799813685248 ^ k * e.getD k 0 := by
  induction e generalizing k with
  | nil => simp at h
  | cons d r ih =>
    cases k with
    | zero => simp [limbsV]
    | succ k =>
      have := ih k (by simpa using h)
      simp only [List.take_succ_cons, limbsV, List.getD_cons_succ, this, Nat.pow_succ]
      rw [Nat.mul_add, Nat.add_assoc, Nat.mul_comm (2251799813685248 ^ k) 2251799813685248, Nat.mul_assoc]
theorem limb_parts (n : Nat) : ∀ k : Fin 5, 65536 ^ (3 * k.1) * (n % 4294967296 * 2 ^ (3 * k.1)) + 65536 ^ (3 * k.1 + 2) * (n / 4294967296 * 2 ^ (3 * k.1)) = 2251799813685248 ^ k.1 * n
  | ⟨0, _⟩ => by show 65536 ^ 0 * (n % 4294967296 * 2 ^ 0) + 65536 ^ 2 * (n / 4294967296 * 2 ^ 0) = 2251799813685248 ^ 0 * n; omega
  | ⟨1, _⟩ => by show 65536 ^ 3 * (n % 4294967296 * 2 ^ 3) + 65536 ^ 5 * (n / 4294967296 * 2 ^ 3) = 2251799813685248 ^ 1 * n; omega
  | ⟨2, _⟩ => by show 65536 ^ 6 * (n % 4294967296 * 2 ^ 6) + 65536 ^ 8 * (n / 4294967296 * 2 ^ 6) = 2251799813685248 ^ 2 * n; omega
  | ⟨3, _⟩ => by show 65536 ^ 9 * (n % 4294967296 * 2 ^ 9) + 65536 ^ 11 * (n / 4294967296 * 2 ^ 9) = 2251799813685248 ^ 3 * n; omega
  | ⟨4, _⟩ => by show 65536 ^ 12 * (n % 4294967296 * 2 ^ 12) + 65536 ^ 14 * (n / 4294967296 * 2 ^ 12) = 2251799813685248 ^ 4 * n; omega
theorem FromI.next {e l : List Nat} {k : Nat} (h : FromI e k l) (hk : k < 5) (le : e.length = 5) (he : e.getD k 0 < 4503599627370496) :
    FromI e (k + 1) ((l.set (3 * k) (e.getD k 0 % 4294967296 * 2 ^ (3 * k))).set (3 * k + 2) (e.getD k 0 / 4294967296 * 2 ^ (3 * k))) := by
  have hl := h.len
  have h0 := h.rest (3 * k) (Nat.le_refl _)
  have h2 := h.rest (3 * k + 2) (by omega)
  have hp : (2 : Nat) ^ (3 * k) ≤ 2 ^ 12 := Nat.pow_le_pow_right (by decide) (by omega)
  have b1 : e.getD k 0 % 4294967296 * 2 ^ (3 * k) ≤ 4294967296 * 2 ^ 12 := Nat.mul_le_mul (by omega) hp
  have b2 : e.getD k 0 / 4294967296 * 2 ^ (3 * k) ≤ 1048576 * 2 ^ 12 := Nat.mul_le_mul (by omega) hp
  have hlp := limb_parts (e.getD k 0) ⟨k, hk⟩
  generalize e.getD k 0 % 4294967296 * 2 ^ (3 * k) = x at *
  generalize e.getD k 0 / 4294967296 * 2 ^ (3 * k) = y at *
  refine ⟨by simp [hl], ?_, fun j => ?_, fun j hj => ?_⟩
  · have e1 := V_set l (3 * k) x (by omega)
    have e2 := V_set (l.set (3 * k) x) (3 * k + 2) y (by rw [List.length_set]; omega)
    rw [set_getD _ _ _ _ (by omega), if_neg (by omega), h2, Nat.mul_zero, Nat.add_zero] at e2
    rw [h0, Nat.mul_zero, Nat.add_zero] at e1
    rw [e2, e1, h.val, limbsV_succ e k (by omega), ← hlp, Nat.add_assoc]
  · rw [set_getD _ _ _ _ (by rw [List.length_set]; omega), set_getD _ _ _ _ (by omega)]
    split
    · omega
    · split
      · omega
      · exact h.low j
  · rw [set_getD _ _ _ _ (by rw [List.length_set]; omega), if_neg (by omega), set_getD _ _ _ _ (by omega), if_neg (by omega)]
    exact h.rest j (by omega)
set_option maxRecDepth 100000 in
set_option maxHeartbeats 8000000 in
theorem from_any (e : List Nat) (w0 : World) (le : e.length = 5) (he : ∀ j, e.getD j 0 < 4503599627370496) : Calls Tryd.prog 14 #[.agg (pL e).toArray] w0 (Out (num (limbsV e)) w0) := by
  go_enter Tryd.func14, Tryd.ntmps14
  go_upto_region 2 with (fail)
  show Code.wp _ _ _ _ (((w0.alloc (.cells (pL e).toArray 23)).alloc (.cells (pL zeros).toArray 33)).alloc (.cells (pL zeros).toArray 33))
  have b1 := ((Blk.new w0 (pL e) 23).alloc (.cells (pL zeros).toArray 33)).alloc (.cells (pL zeros).toArray 33)
  have b2 := (new (w := w0.alloc (.cells (pL e).toArray 23)) (B := w0.heap.size + 1) (by simp) zeros).alloc (.cells (pL zeros).toArray 33)
  have b3 := new (w := (w0.alloc (.cells (pL e).toArray 23)).alloc (.cells (pL zeros).toArray 33)) (B := w0.heap.size + 2) (by simp) zeros
  have g4 := gb_alloc (gb_alloc (gb_alloc (gb_refl w0 none) (.cells (pL e).toArray 23)) (.cells (pL zeros).toArray 33)) (.cells (pL zeros).toArray 33)
  revert g4; revert b3; revert b2; revert b1
  generalize (((w0.alloc (.cells (pL e).toArray 23)).alloc (.cells (pL zeros).toArray 33)).alloc (.cells (pL zeros).toArray 33)) = w2
  intro b1 b2 b3 g4
  have H2 := Lib.hid (And.intro g4 (And.intro b1 (And.intro b2 b3))); clear g4 b1 b2 b3
  have HE := Lib.hid (And.intro le he); clear le he
  go_wp2
  go_loopw [4] (fun i wr => ∃ (k : Nat) (l : List Nat), k ≤ 5 ∧ i = .int .i64 k ∧ FromI e k l ∧ w0.grownBy wr none ∧ Blk wr w0.heap.size 23 (pL e) ∧ Blk wr (w0.heap.size + 1) 33 (pL zeros) ∧ Blk wr (w0.heap.size + 2) 33 (pL l)) (fun i _ => 5 - (intOf i).toNat)
  case atStart => exact ⟨0, zeros, by omega, rfl, FromI.start e, H2.out.1, H2.out.2.1, H2.out.2.2.1, H2.out.2.2.2⟩
  case round =>
    obtain ⟨k, l, hk, rfl, hs, hg, h1, h2, h3⟩ := hrel
    by_cases hlt : k < 5
    · have i0 : (k : Int) < 5 := by omega
      have hl := hs.len
      have c0 := h1.cell (pL_get e k (by have := HE.out.1; omega))
      have c1 := cell h3 (3 * k) (by omega)
      have c2 := cell h3 (3 * k + 2) (by omega)
      rw [hs.rest (3 * k) (Nat.le_refl _)] at c1
      rw [hs.rest (3 * k + 2) (by omega)] at c2
      have ve := HE.out.2 k
      have hn := hs.next hlt HE.out.1 ve
      have hbd := h3.grown (gb_drew (gb_refl wr none)) (by simp)
      have f1 := hbd.free (3 * k)
      have hm := and_low (e.getD k 0) (by omega)
      obtain ⟨n, hne⟩ : ∃ n, n = e.getD k 0 := ⟨_, rfl⟩
      have HNe := Lib.hid hne.symm
      have HZ := Lib.hid (hs.rest (3 * k + 2) (by omega))
      rw [← hne] at c0 ve hn hm
      clear hne
      have HI := Lib.hid (And.intro hn (And.intro hg (And.intro h1 (And.intro h2 h3)))); clear hn hs hg h1 h2 h3 hbd f1
      obtain rfl | rfl | rfl | rfl | rfl : k = 0 ∨ k = 1 ∨ k = 2 ∨ k = 3 ∨ k = 4 := by omega
      · obtain ⟨lo, hlo⟩ : ∃ lo, lo = n % 4294967296 * 1 := ⟨_, rfl⟩
        obtain ⟨hi, hhi⟩ : ∃ hi, hi = n / 4294967296 * 1 := ⟨_, rfl⟩
        have hloI : (n : Int) % 4294967296 = (lo : Int) := by omega
        have hhiI : (n : Int) / 4294967296 = (hi : Int) := by omega
        have hlob : lo < 18446744073709551616 := by omega
        have hhib : hi < 18446744073709551616 := by omega
        have hn : FromI e 1 ((l.set 0 lo).set 2 hi) := by rw [hlo, hhi]; exact HI.out.1
        have c1 : wr.cell? ⟨w0.heap.size + 2, 0, none⟩ = some (.int .u64 0) := c1
        have c2 : wr.cell? ⟨w0.heap.size + 2, 2, none⟩ = some (.int .u64 0) := c2
        have f1 := (HI.out.2.2.2.2.grown (gb_drew (gb_refl wr none)) (by simp)).free 0
        have HL := Lib.hid (And.intro hlo hhi); clear hlo hhi
        go_wp2
        go_region
        have q1 := HI.out.2.2.1.grown (gb_drew (gb_refl wr none)) (by simp)
        have q2 := HI.out.2.2.2.1.grown (gb_drew (gb_refl wr none)) (by simp)
        have q3 := HI.out.2.2.2.2.grown (gb_drew (gb_refl wr none)) (by simp)
        have qg := gb_drew HI.out.2.1
        obtain ⟨W1, hW1⟩ : ∃ W1, W1 = (wr.setCell ⟨w0.heap.size + 1 + 1, 0, none⟩ (.int .u64 (lo : Int))).drew := ⟨_, rfl⟩
        have p1 : Blk W1 w0.heap.size 23 (pL e) := hW1 ▸ q1.other (a := ⟨w0.heap.size + 2, 0, none⟩) (by show w0.heap.size + 2 ≠ w0.heap.size; omega) (.int .u64 (lo : Int))
        have p2 : Blk W1 (w0.heap.size + 1) 33 (pL zeros) := hW1 ▸ q2.other (a := ⟨w0.heap.size + 2, 0, none⟩) (by show w0.heap.size + 2 ≠ w0.heap.size + 1; omega) (.int .u64 (lo : Int))
        have p3 : Blk W1 (w0.heap.size + 2) 33 (pL (l.set 0 lo)) := hW1 ▸ set q3 0 lo
        have pg : w0.grownBy W1 none := hW1 ▸ gb_set_new qg (p := ⟨w0.heap.size + 2, 0, none⟩) (by show w0.heap.size ≤ w0.heap.size + 2; omega) (.int .u64 (lo : Int))
        have d2 : W1.cell? ⟨w0.heap.size + 2, 2, none⟩ = some (.int .u64 0) := by
          have := cell p3 2 (by rw [List.length_set]; omega)
          rw [set_getD _ _ _ _ (by omega), if_neg (by decide)] at this
          rw [this, HZ.out]
          rfl
        have d0 := p1.cell (pL_get e 0 (by have := HE.out.1; omega))
        rw [HNe.out] at d0
        have e2 := (p3.grown (gb_drew (gb_refl W1 none)) (by simp)).free 2
        rw [← hW1]
        have HP := Lib.hid (And.intro hn (And.intro pg (And.intro p1 (And.intro p2 p3)))); clear p1 p2 p3 pg q1 q2 q3 qg hn hW1 c1 c2 f1 c0
        go_wp2
        go_region
        have t1 := (HP.out.2.2.1.grown (gb_drew (gb_refl W1 none)) (by simp)).other (a := ⟨w0.heap.size + 2, 2, none⟩) (by show w0.heap.size + 2 ≠ w0.heap.size; omega) (.int .u64 (hi : Int))
        have t2 := (HP.out.2.2.2.1.grown (gb_drew (gb_refl W1 none)) (by simp)).other (a := ⟨w0.heap.size + 2, 2, none⟩) (by show w0.heap.size + 2 ≠ w0.heap.size + 1; omega) (.int .u64 (hi : Int))
        have t3 := set (HP.out.2.2.2.2.grown (gb_drew (gb_refl W1 none)) (by simp)) 2 hi
        have tg := gb_set_new (gb_drew HP.out.2.1) (p := ⟨w0.heap.size + 2, 2, none⟩) (by show w0.heap.size ≤ w0.heap.size + 2; omega) (.int .u64 (hi : Int))
        have HT := Lib.hid (And.intro tg (And.intro t1 (And.intro t2 t3))); clear tg t1 t2 t3
        go_wp2
        exact ⟨⟨1, _, by omega, by congr 1, HP.out.1, HT.out.1, HT.out.2.1, HT.out.2.2.1, HT.out.2.2.2⟩, by simp [intOf]⟩
      · obtain ⟨lo, hlo⟩ : ∃ lo, lo = n % 4294967296 * 8 := ⟨_, rfl⟩
        obtain ⟨hi, hhi⟩ : ∃ hi, hi = n / 4294967296 * 8 := ⟨_, rfl⟩
        have hloI : (n : Int) % 4294967296 * 8 = (lo : Int) := by omega
        have hhiI : (n : Int) / 4294967296 * 8 = (hi : Int) := by omega
        have hlob : lo < 18446744073709551616 := by omega
        have hhib : hi < 18446744073709551616 := by omega
        have hn : FromI e 2 ((l.set 3 lo).set 5 hi) := by rw [hlo, hhi]; exact HI.out.1
        have c1 : wr.cell? ⟨w0.heap.size + 2, 3, none⟩ = some (.int .u64 0) := c1
        have c2 : wr.cell? ⟨w0.heap.size + 2, 5, none⟩ = some (.int .u64 0) := c2
        have f1 := (HI.out.2.2.2.2.grown (gb_drew (gb_refl wr none)) (by simp)).free 3
        have HL := Lib.hid (And.intro hlo hhi); clear hlo hhi
        go_wp2
        go_region
        have q1 := HI.out.2.2.1.grown (gb_drew (gb_refl wr none)) (by simp)
        have q2 := HI.out.2.2.2.1.grown (gb_drew (gb_refl wr none)) (by simp)
        have q3 := HI.out.2.2.2.2.grown (gb_drew (gb_refl wr none)) (by simp)
        have qg := gb_drew HI.out.2.1
        obtain ⟨W1, hW1⟩ : ∃ W1, W1 = (wr.setCell ⟨w0.heap.size + 1 + 1, 3, none⟩ (.int .u64 (lo : Int))).drew := ⟨_, rfl⟩
        have p1 : Blk W1 w0.heap.size 23 (pL e) := hW1 ▸ q1.other (a := ⟨w0.heap.size + 2, 3, none⟩) (by show w0.heap.size + 2 ≠ w0.heap.size; omega) (.int .u64 (lo : Int))
        have p2 : Blk W1 (w0.heap.size + 1) 33 (pL zeros) := hW1 ▸ q2.other (a := ⟨w0.heap.size + 2, 3, none⟩) (by show w0.heap.size + 2 ≠ w0.heap.size + 1; omega) (.int .u64 (lo : Int))
        have p3 : Blk W1 (w0.heap.size + 2) 33 (pL (l.set 3 lo)) := hW1 ▸ set q3 3 lo
        have pg : w0.grownBy W1 none := hW1 ▸ gb_set_new qg (p := ⟨w0.heap.size + 2, 3, none⟩) (by show w0.heap.size ≤ w0.heap.size + 2; omega) (.int .u64 (lo : Int))
        have d2 : W1.cell? ⟨w0.heap.size + 2, 5, none⟩ = some (.int .u64 0) := by
          have := cell p3 5 (by rw [List.length_set]; omega)
          rw [set_getD _ _ _ _ (by omega), if_neg (by decide)] at this
          rw [this, HZ.out]
          rfl
        have d0 := p1.cell (pL_get e 1 (by have := HE.out.1; omega))
        rw [HNe.out] at d0
        have e2 := (p3.grown (gb_drew (gb_refl W1 none)) (by simp)).free 5
        rw [← hW1]
        have HP := Lib.hid (And.intro hn (And.intro pg (And.intro p1 (And.intro p2 p3)))); clear p1 p2 p3 pg q1 q2 q3 qg hn hW1 c1 c2 f1 c0
        go_wp2
        go_region
        have t1 := (HP.out.2.2.1.grown (gb_drew (gb_refl W1 none)) (by simp)).other (a := ⟨w0.heap.size + 2, 5, none⟩) (by show w0.heap.size + 2 ≠ w0.heap.size; omega) (.int .u64 (hi : Int))
        have t2 := (HP.out.2.2.2.1.grown (gb_drew (gb_refl W1 none)) (by simp)).other (a := ⟨w0.heap.size + 2, 5, none⟩) (by show w0.heap.size + 2 ≠ w0.heap.size + 1; omega) (.int .u64 (hi : Int))
        have t3 := set (HP.out.2.2.2.2.grown (gb_drew (gb_refl W1 none)) (by simp)) 5 hi
        have tg := gb_set_new (gb_drew HP.out.2.1) (p := ⟨w0.heap.size + 2, 5, none⟩) (by show w0.heap.size ≤ w0.heap.size + 2; omega) (.int .u64 (hi : Int))
        have HT := Lib.hid (And.intro tg (And.intro t1 (And.intro t2 t3))); clear tg t1 t2 t3
        go_wp2
        exact ⟨⟨2, _, by omega, by congr 1, HP.out.1, HT.out.1, HT.out.2.1, HT.out.2.2.1, HT.out.2.2.2⟩, by simp [intOf]⟩
      · obtain ⟨lo, hlo⟩ : ∃ lo, lo = n % 4294967296 * 64 := ⟨_, rfl⟩
        obtain ⟨hi, hhi⟩ : ∃ hi, hi = n / 4294967296 * 64 := ⟨_, rfl⟩
        have hloI : (n : Int) % 4294967296 * 64 = (lo : Int) := by omega
        have hhiI : (n : Int) / 4294967296 * 64 = (hi : Int) := by omega
        have hlob : lo < 18446744073709551616 := by omega
        have hhib : hi < 18446744073709551616 := by omega
        have hn : FromI e 3 ((l.set 6 lo).set 8 hi) := by rw [hlo, hhi]; exact HI.out.1
        have c1 : wr.cell? ⟨w0.heap.size + 2, 6, none⟩ = some (.int .u64 0) := c1
        have c2 : wr.cell? ⟨w0.heap.size + 2, 8, none⟩ = some (.int .u64 0) := c2
        have f1 := (HI.out.2.2.2.2.grown (gb_drew (gb_refl wr none)) (by simp)).free 6
        have HL := Lib.hid (And.intro hlo hhi); clear hlo hhi
        go_wp2
        go_region
        have q1 := HI.out.2.2.1.grown (gb_drew (gb_refl wr none)) (by simp)
        have q2 := HI.out.2.2.2.1.grown (gb_drew (gb_refl wr none)) (by simp)
        have q3 := HI.out.2.2.2.2.grown (gb_drew (gb_refl wr none)) (by simp)
        have qg := gb_drew HI.out.2.1
        obtain ⟨W1, hW1⟩ : ∃ W1, W1 = (wr.setCell ⟨w0.heap.size + 1 + 1, 6, none⟩ (.int .u64 (lo : Int))).drew := ⟨_, rfl⟩
        have p1 : Blk W1 w0.heap.size 23 (pL e) := hW1 ▸ q1.other (a := ⟨w0.heap.size + 2, 6, none⟩) (by show w0.heap.size + 2 ≠ w0.heap.size; omega) (.int .u64 (lo : Int))
        have p2 : Blk W1 (w0.heap.size + 1) 33 (pL zeros) := hW1 ▸ q2.other (a := ⟨w0.heap.size + 2, 6, none⟩) (by show w0.heap.size + 2 ≠ w0.heap.size + 1; omega) (.int .u64 (lo : Int))
        have p3 : Blk W1 (w0.heap.size + 2) 33 (pL (l.set 6 lo)) := hW1 ▸ set q3 6 lo
        have pg : w0.grownBy W1 none := hW1 ▸ gb_set_new qg (p := ⟨w0.heap.size + 2, 6, none⟩) (by show w0.heap.size ≤ w0.heap.size + 2; omega) (.int .u64 (lo : Int))
        have d2 : W1.cell? ⟨w0.heap.size + 2, 8, none⟩ = some (.int .u64 0) := by
          have := cell p3 8 (by rw [List.length_set]; omega)
          rw [set_getD _ _ _ _ (by omega), if_neg (by decide)] at this
          rw [this, HZ.out]
          rfl
        have d0 := p1.cell (pL_get e 2 (by have := HE.out.1; omega))
        rw [HNe.out] at d0
        have e2 := (p3.grown (gb_drew (gb_refl W1 none)) (by simp)).free 8
        rw [← hW1]
        have HP := Lib.hid (And.intro hn (And.intro pg (And.intro p1 (And.intro p2 p3)))); clear p1 p2 p3 pg q1 q2 q3 qg hn hW1 c1 c2 f1 c0
        go_wp2
        go_region
        have t1 := (HP.out.2.2.1.grown (gb_drew (gb_refl W1 none)) (by simp)).other (a := ⟨w0.heap.size + 2, 8, none⟩) (by show w0.heap.size + 2 ≠ w0.heap.size; omega) (.int .u64 (hi : Int))
        have t2 := (HP.out.2.2.2.1.grown (gb_drew (gb_refl W1 none)) (by simp)).other (a := ⟨w0.heap.size + 2, 8, none⟩) (by show w0.heap.size + 2 ≠ w0.heap.size + 1; omega) (.int .u64 (hi : Int))
        have t3 := set (HP.out.2.2.2.2.grown (gb_drew (gb_refl W1 none)) (by simp)) 8 hi
        have tg := gb_set_new (gb_drew HP.out.2.1) (p := ⟨w0.heap.size + 2, 8, none⟩) (by show w0.heap.size ≤ w0.heap.size + 2; omega) (.int .u64 (hi : Int))
        have HT := Lib.hid (And.intro tg (And.intro t1 (And.intro t2 t3))); clear tg t1 t2 t3
        go_wp2
        exact ⟨⟨3, _, by omega, by congr 1, HP.out.1, HT.out.1, HT.out.2.1, HT.out.2.2.1, HT.out.2.2.2⟩, by simp [intOf]⟩
      · obtain ⟨lo, hlo⟩ : ∃ lo, lo = n % 4294967296 * 512 := ⟨_, rfl⟩
        obtain ⟨hi, hhi⟩ : ∃ hi, hi = n / 4294967296 * 512 := ⟨_, rfl⟩
        have hloI : (n : Int) % 4294967296 * 512 = (lo : Int) := by omega
        have hhiI : (n : Int) / 4294967296 * 512 = (hi : Int) := by omega
        have hlob : lo < 18446744073709551616 := by omega
        have hhib : hi < 18446744073709551616 := by omega
        have hn : FromI e 4 ((l.set 9 lo).set 11 hi) := by rw [hlo, hhi]; exact HI.out.1
        have c1 : wr.cell? ⟨w0.heap.size + 2, 9, none⟩ = some (.int .u64 0) := c1
        have c2 : wr.cell? ⟨w0.heap.size + 2, 11, none⟩ = some (.int .u64 0) := c2
        have f1 := (HI.out.2.2.2.2.grown (gb_drew (gb_refl wr none)) (by simp)).free 9
        have HL := Lib.hid (And.intro hlo hhi); clear hlo hhi
        go_wp2
        go_region
        have q1 := HI.out.2.2.1.grown (gb_drew (gb_refl wr none)) (by simp)
        have q2 := HI.out.2.2.2.1.grown (gb_drew (gb_refl wr none)) (by simp)
        have q3 := HI.out.2.2.2.2.grown (gb_drew (gb_refl wr none)) (by simp)
        have qg := gb_drew HI.out.2.1
        obtain ⟨W1, hW1⟩ : ∃ W1, W1 = (wr.setCell ⟨w0.heap.size + 1 + 1, 9, none⟩ (.int .u64 (lo : Int))).drew := ⟨_, rfl⟩
        have p1 : Blk W1 w0.heap.size 23 (pL e) := hW1 ▸ q1.other (a := ⟨w0.heap.size + 2, 9, none⟩) (by show w0.heap.size + 2 ≠ w0.heap.size; omega) (.int .u64 (lo : Int))
        have p2 : Blk W1 (w0.heap.size + 1) 33 (pL zeros) := hW1 ▸ q2.other (a := ⟨w0.heap.size + 2, 9, none⟩) (by show w0.heap.size + 2 ≠ w0.heap.size + 1; omega) (.int .u64 (lo : Int))
        have p3 : Blk W1 (w0.heap.size + 2) 33 (pL (l.set 9 lo)) := hW1 ▸ set q3 9 lo
        have pg : w0.grownBy W1 none := hW1 ▸ gb_set_new qg (p := ⟨w0.heap.size + 2, 9, none⟩) (by show w0.heap.size ≤ w0.heap.size + 2; omega) (.int .u64 (lo : Int))
        have d2 : W1.cell? ⟨w0.heap.size + 2, 11, none⟩ = some (.int .u64 0) := by
          have := cell p3 11 (by rw [List.length_set]; omega)
          rw [set_getD _ _ _ _ (by omega), if_neg (by decide)] at this
          rw [this, HZ.out]
          rfl
        have d0 := p1.cell (pL_get e 3 (by have := HE.out.1; omega))
        rw [HNe.out] at d0
        have e2 := (p3.grown (gb_drew (gb_refl W1 none)) (by simp)).free 11
        rw [← hW1]
        have HP := Lib.hid (And.intro hn (And.intro pg (And.intro p1 (And.intro p2 p3)))); clear p1 p2 p3 pg q1 q2 q3 qg hn hW1 c1 c2 f1 c0
        go_wp2
        go_region
        have t1 := (HP.out.2.2.1.grown (gb_drew (gb_refl W1 none)) (by simp)).other (a := ⟨w0.heap.size + 2, 11, none⟩) (by show w0.heap.size + 2 ≠ w0.heap.size; omega) (.int .u64 (hi : Int))
        have t2 := (HP.out.2.2.2.1.grown (gb_drew (gb_refl W1 none)) (by simp)).other (a := ⟨w0.heap.size + 2, 11, none⟩) (by show w0.heap.size + 2 ≠ w0.heap.size + 1; omega) (.int .u64 (hi : Int))
        have t3 := set (HP.out.2.2.2.2.grown (gb_drew (gb_refl W1 none)) (by simp)) 11 hi
        have tg := gb_set_new (gb_drew HP.out.2.1) (p := ⟨w0.heap.size + 2, 11, none⟩) (by show w0.heap.size ≤ w0.heap.size + 2; omega) (.int .u64 (hi : Int))
        have HT := Lib.hid (And.intro tg (And.intro t1 (And.intro t2 t3))); clear tg t1 t2 t3
        go_wp2
        exact ⟨⟨4, _, by omega, by congr 1, HP.out.1, HT.out.1, HT.out.2.1, HT.out.2.2.1, HT.out.2.2.2⟩, by simp [intOf]⟩
      · obtain ⟨lo, hlo⟩ : ∃ lo, lo = n % 4294967296 * 4096 := ⟨_, rfl⟩
        obtain ⟨hi, hhi⟩ : ∃ hi, hi = n / 4294967296 * 4096 := ⟨_, rfl⟩
        have hloI : (n : Int) % 4294967296 * 4096 = (lo : Int) := by omega
        have hhiI : (n : Int) / 4294967296 * 4096 = (hi : Int) := by omega
        have hlob : lo < 18446744073709551616 := by omega
        have hhib : hi < 18446744073709551616 := by omega
        have hn : FromI e 5 ((l.set 12 lo).set 14 hi) := by rw [hlo, hhi]; exact HI.out.1
        have c1 : wr.cell? ⟨w0.heap.size + 2, 12, none⟩ = some (.int .u64 0) := c1
        have c2 : wr.cell? ⟨w0.heap.size + 2, 14, none⟩ = some (.int .u64 0) := c2
        have f1 := (HI.out.2.2.2.2.grown (gb_drew (gb_refl wr none)) (by simp)).free 12
        have HL := Lib.hid (And.intro hlo hhi); clear hlo hhi
        go_wp2
        go_region
        have q1 := HI.out.2.2.1.grown (gb_drew (gb_refl wr none)) (by simp)
        have q2 := HI.out.2.2.2.1.grown (gb_drew (gb_refl wr none)) (by simp)
        have q3 := HI.out.2.2.2.2.grown (gb_drew (gb_refl wr none)) (by simp)
        have qg := gb_drew HI.out.2.1
        obtain ⟨W1, hW1⟩ : ∃ W1, W1 = (wr.setCell ⟨w0.heap.size + 1 + 1, 12, none⟩ (.int .u64 (lo : Int))).drew := ⟨_, rfl⟩
        have p1 : Blk W1 w0.heap.size 23 (pL e) := hW1 ▸ q1.other (a := ⟨w0.heap.size + 2, 12, none⟩) (by show w0.heap.size + 2 ≠ w0.heap.size; omega) (.int .u64 (lo : Int))
        have p2 : Blk W1 (w0.heap.size + 1) 33 (pL zeros) := hW1 ▸ q2.other (a := ⟨w0.heap.size + 2, 12, none⟩) (by show w0.heap.size + 2 ≠ w0.heap.size + 1; omega) (.int .u64 (lo : Int))
        have p3 : Blk W1 (w0.heap.size + 2) 33 (pL (l.set 12 lo)) := hW1 ▸ set q3 12 lo
        have pg : w0.grownBy W1 none := hW1 ▸ gb_set_new qg (p := ⟨w0.heap.size + 2, 12, none⟩) (by show w0.heap.size ≤ w0.heap.size + 2; omega) (.int .u64 (lo : Int))
        have d2 : W1.cell? ⟨w0.heap.size + 2, 14, none⟩ = some (.int .u64 0) := by
          have := cell p3 14 (by rw [List.length_set]; omega)
          rw [set_getD _ _ _ _ (by omega), if_neg (by decide)] at this
          rw [this, HZ.out]
          rfl
        have d0 := p1.cell (pL_get e 4 (by have := HE.out.1; omega))
        rw [HNe.out] at d0
        have e2 := (p3.grown (gb_drew (gb_refl W1 none)) (by simp)).free 14
        rw [← hW1]
        have HP := Lib.hid (And.intro hn (And.intro pg (And.intro p1 (And.intro p2 p3)))); clear p1 p2 p3 pg q1 q2 q3 qg hn hW1 c1 c2 f1 c0
        go_wp2
        go_region
        have t1 := (HP.out.2.2.1.grown (gb_drew (gb_refl W1 none)) (by simp)).other (a := ⟨w0.heap.size + 2, 14, none⟩) (by show w0.heap.size + 2 ≠ w0.heap.size; omega) (.int .u64 (hi : Int))
        have t2 := (HP.out.2.2.2.1.grown (gb_drew (gb_refl W1 none)) (by simp)).other (a := ⟨w0.heap.size + 2, 14, none⟩) (by show w0.heap.size + 2 ≠ w0.heap.size + 1; omega) (.int .u64 (hi : Int))
        have t3 := set (HP.out.2.2.2.2.grown (gb_drew (gb_refl W1 none)) (by simp)) 14 hi
        have tg := gb_set_new (gb_drew HP.out.2.1) (p := ⟨w0.heap.size + 2, 14, none⟩) (by show w0.heap.size ≤ w0.heap.size + 2; omega) (.int .u64 (hi : Int))
        have HT := Lib.hid (And.intro tg (And.intro t1 (And.intro t2 t3))); clear tg t1 t2 t3
        go_wp2
        exact ⟨⟨5, _, by omega, by congr 1, HP.out.1, HT.out.1, HT.out.2.1, HT.out.2.2.1, HT.out.2.2.2⟩, by simp [intOf]⟩
    · obtain rfl : k = 5 := by omega
      have hl := hs.len
      have hv := hs.val
      rw [List.take_of_length_le (Nat.le_of_eq HE.out.1)] at hv
      have hlow := hs.low
      have zz := h3.lt
      clear hs
      go_upto_region 8 with (fail)
      refine wp_region_lit ?_
      refine Fg.wpl_value (v := nV (l)) (w' := wr) rfl (ld rfl rfl (h3) (hl) rfl rfl) ?_
      simp only [Act.put, List.setIfInBounds_toArray, List.set_cons_succ, List.set_cons_zero]
      refine Fg.wpl_call rfl (Fg.run_call (vs := #[nV (l)]) rfl rfl (by simp only [List.map_toArray, List.map_cons, List.map_nil, Act.eval]; rfl) (Fg.run_enter Tryd.func36 (by kernel_rfl) (by kernel_rfl))) ?_
      refine (whole_any l wr hl hlow).mono ?_
      rintro e wF ⟨rfl, gwF⟩
      refine ⟨_, rfl, ?_⟩
      simp only [Act.put, List.setIfInBounds_toArray, List.set_cons_succ, List.set_cons_zero]
      obtain ⟨rN, hrN⟩ : ∃ r : List Nat, r = num (V l) := ⟨_, rfl⟩
      have hrl : rN.length = 16 := by rw [hrN]; exact num_len _
      rw [← hrN]
      have HRN := Lib.hid hrN; clear hrN
      refine Fg.wpl_skip rfl rfl (st (l := rN) rfl rfl rfl ((h2).grown gwF (by simp)) (by rw [pL_len]; rfl) hrl rfl) ?_
      refine wpList_nil ?_
      have hR := stored (l := rN) ((h2).grown gwF (by simp)) (by rw [pL_len]; rfl) hrl
      have gR := gb_setCells_new (cs := pL rN) (gb_trans (hg) gwF) (B := w0.heap.size + 1) (by omega) 0
      revert gR; revert hR
      generalize World.setCells _ _ _ _ = wR
      intro hR gR
      go_wp2_with fail
      exact bodyPost_ret (v := nV rN) (res Tryd.results14 _ _ (w0.heap.size + 1) rN rfl hR hrl) rfl ⟨by rw [HRN.out, hv], gR⟩
end Nr
end Go.Proofs.YtjgfhihngbhljaaDoor
