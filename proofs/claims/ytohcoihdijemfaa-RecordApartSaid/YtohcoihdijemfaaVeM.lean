/- Vectors of dots: mathematics. A dot is a pair of numbers (client, seq). -/
import Derived.WalkKit
namespace Go.Proofs.Ytohcoihdijemfaa
namespace Ve

abbrev D := Int × Int
abbrev z0 : D := (0, 0)
/-- right behind a client: clients rise, all are right -/
def Rt : Int → List D → Prop
  | _, [] => True
  | a, d :: r => a < d.1 ∧ d.1 ≤ 8 ∧ 1 ≤ d.2 ∧ d.2 ≤ 1073741824 ∧ Rt d.1 r
def rtB : Int → List D → Bool
  | _, [] => true
  | a, d :: r => (decide (a < d.1) && decide (d.1 ≤ 8) && decide (1 ≤ d.2) && decide (d.2 ≤ 1073741824)) && rtB d.1 r
theorem rtB_iff (l : List D) : ∀ a, rtB a l = true ↔ Rt a l := by
  induction l with
  | nil => intro a; simp [rtB, Rt]
  | cons d r ih => intro a; simp [rtB, Rt, ih, and_assoc]
theorem rtB_false (l : List D) (a : Int) : rtB a l = false ↔ ¬ Rt a l := by rw [← rtB_iff]; simp
/-- up to which number a row has a client's: the first that is met; 0: none -/
def up : List D → Int → Int
  | [], _ => 0
  | d :: r, c => if d.1 = c then d.2 else up r c
/-- the greatest number of a client's -/
def um : List D → Int → Int
  | [], _ => 0
  | d :: r, c => if d.1 = c then max d.2 (um r c) else um r c
theorem drop_at (l : List D) (k : Nat) (h : k < l.length) : l.drop k = l.getD k z0 :: l.drop (k + 1) := by
  rw [List.drop_eq_getElem_cons h, List.getD_eq_getElem?_getD, List.getElem?_eq_getElem h]; rfl
theorem drop_end (l : List D) (k : Nat) (h : l.length ≤ k) : l.drop k = [] := List.drop_eq_nil_iff.2 h

theorem Rt.low {l : List D} : ∀ {a b : Int}, b ≤ a → Rt a l → Rt b l := by
  cases l with
  | nil => intro a b _ _; trivial
  | cons d r => intro a b hab h; exact ⟨by have := h.1; omega, h.2⟩
theorem Rt.mem {l : List D} : ∀ {a : Int}, Rt a l → ∀ d ∈ l, a < d.1 ∧ d.1 ≤ 8 ∧ 1 ≤ d.2 ∧ d.2 ≤ 1073741824 := by
  induction l with
  | nil => intro a _ d hd; cases hd
  | cons e r ih =>
    intro a h d hd
    rcases List.mem_cons.1 hd with rfl | hd
    · exact ⟨h.1, h.2.1, h.2.2.1, h.2.2.2.1⟩
    · have := ih h.2.2.2.2 d hd
      have := h.1
      omega
theorem Rt.len {l : List D} : ∀ {a : Int}, Rt a l → a ≤ 8 → (l.length : Int) ≤ 8 - a := by
  induction l with
  | nil => intro a _ h; simp; omega
  | cons e r ih => intro a h ha; have := ih h.2.2.2.2 h.2.1; have := h.1; simp; omega
theorem Rt.drop {l : List D} (k : Nat) : ∀ {a : Int}, Rt a l → Rt a (l.drop k) := by
  induction k generalizing l with
  | zero => intro a h; simpa using h
  | succ k ih =>
    cases l with
    | nil => intro a _; simp [Rt]
    | cons e r => intro a h; exact ih (h.2.2.2.2.low (by have := h.1; omega))
theorem up_lo {l : List D} : ∀ {a : Int} {c : Int}, Rt a l → c ≤ a → up l c = 0 := by
  induction l with
  | nil => intros; rfl
  | cons e r ih => intro a c h hc; have := h.1; rw [up, if_neg (by omega)]; exact ih h.2.2.2.2 (by omega)
theorem up_hi {l : List D} : ∀ {a : Int} {c : Int}, Rt a l → 8 < c → up l c = 0 := by
  induction l with
  | nil => intros; rfl
  | cons e r ih => intro a c h hc; have := h.2.1; rw [up, if_neg (by omega)]; exact ih h.2.2.2.2 hc
theorem up_bd {l : List D} : ∀ {a : Int} {c : Int}, Rt a l → 0 ≤ up l c ∧ up l c ≤ 1073741824 := by
  induction l with
  | nil => intros; simp [up]
  | cons e r ih =>
    intro a c h
    have h1 := h.2.2.1
    have h2 := h.2.2.2.1
    rw [up]
    split
    · omega
    · exact ih h.2.2.2.2
theorem um_up {l : List D} : ∀ {a : Int}, Rt a l → ∀ c, um l c = up l c := by
  induction l with
  | nil => intros; rfl
  | cons e r ih =>
    intro a h c
    rw [um, up, ih h.2.2.2.2]
    split
    · rename_i he
      rw [up_lo h.2.2.2.2 (by omega)]
      have := h.2.2.1
      omega
    · rfl
/-- two vectors that have the same are the same -/
theorem up_ext {l : List D} : ∀ {m : List D} {a : Int}, Rt a l → Rt a m → (∀ c, up l c = up m c) → l = m := by
  induction l with
  | nil =>
    intro m a _ hm h
    cases m with
    | nil => rfl
    | cons e s => have := h e.1; rw [up, up, if_pos rfl] at this; have := hm.2.2.1; omega
  | cons d r ih =>
    intro m a hl hm h
    cases m with
    | nil => have := h d.1; rw [up, up, if_pos rfl] at this; have := hl.2.2.1; omega
    | cons e s =>
      have h1 := hl.2.2.1
      have h2 := hm.2.2.1
      have hd := h d.1
      have he := h e.1
      rw [up, if_pos rfl, up] at hd
      rw [up, up, if_pos rfl] at he
      have hde : d.1 = e.1 := by
        rcases Int.lt_trichotomy d.1 e.1 with hlt | heq | hgt
        · rw [if_neg (by omega), up_lo hm.2.2.2.2 (by omega)] at hd; omega
        · exact heq
        · rw [if_neg (by omega), up_lo hl.2.2.2.2 (by omega)] at he; omega
      rw [if_pos hde.symm] at hd
      obtain ⟨d1, d2⟩ := d
      obtain ⟨e1, e2⟩ := e
      simp only at hde hd
      subst hde
      subst hd
      rw [ih hl.2.2.2.2 hm.2.2.2.2 (fun c => by
        have hc := h c
        rw [up, up] at hc
        by_cases hcc : d1 = c
        · subst hcc
          rw [up_lo hl.2.2.2.2 (Int.le_refl _), up_lo hm.2.2.2.2 (Int.le_refl _)]
        · simpa [hcc] using hc)]
theorem um_nn (l : List D) (c : Int) : 0 ≤ um l c := by
  induction l with
  | nil => simp [um]
  | cons d r ih => rw [um]; split <;> omega
/-- what all rows have -/
def mx : List (List D) → Int → Int
  | [], _ => 0
  | l :: r, c => max (um l c) (mx r c)
theorem mx_nn (rs : List (List D)) (c : Int) : 0 ≤ mx rs c := by
  induction rs with
  | nil => simp [mx]
  | cons l r ih => rw [mx]; omega
def allB : List (List D) → Bool
  | [] => true
  | l :: r => rtB 0 l && allB r
/-- has all of another one -/
def covB (a : List D) : List D → Bool
  | [] => true
  | d :: r => decide (d.2 ≤ up a d.1) && covB a r
def okD (d : D) : Bool := decide (1 ≤ d.1) && decide (d.1 ≤ 8) && decide (1 ≤ d.2) && decide (d.2 ≤ 1073741824)
theorem okD_iff (d : D) : okD d = true ↔ Rt 0 [d] := by
  simp [okD, Rt, and_assoc]; omega
theorem rtB_one (d : D) : rtB 0 [d] = okD d := by
  rw [Bool.eq_iff_iff, okD_iff, rtB_iff]
theorem covB_iff (a b : List D) : covB a b = true ↔ ∀ d ∈ b, d.2 ≤ up a d.1 := by
  induction b with
  | nil => simp [covB]
  | cons d r ih => simp [covB, ih]
theorem up_mem {l : List D} : ∀ {c : Int}, up l c ≠ 0 → (c, up l c) ∈ l := by
  induction l with
  | nil => intro c h; exact absurd rfl h
  | cons d r ih =>
    intro c h
    rw [up] at h ⊢
    split
    · rename_i hd; subst hd; simp
    · rename_i hd; rw [if_neg hd] at h; exact List.mem_cons_of_mem _ (ih h)
theorem mem_up {l : List D} : ∀ {a : Int}, Rt a l → ∀ d ∈ l, up l d.1 = d.2 := by
  induction l with
  | nil => intro a _ d hd; cases hd
  | cons e r ih =>
    intro a h d hd
    rcases List.mem_cons.1 hd with rfl | hd
    · rw [up, if_pos rfl]
    · have := (Rt.mem h.2.2.2.2 d hd).1
      rw [up, if_neg (by omega)]
      exact ih h.2.2.2.2 d hd
theorem covB_up {a b : List D} (ha : Rt 0 a) (hb : Rt 0 b) : covB a b = true ↔ ∀ c, up b c ≤ up a c := by
  rw [covB_iff]
  constructor
  · intro h c
    by_cases h0 : up b c = 0
    · have := (up_bd (c := c) ha).1; omega
    · exact h _ (up_mem h0)
  · intro h d hd
    have := h d.1
    rw [mem_up hb d hd] at this
    exact this
/-- the place of a client -/
def pl (l : List D) (c : Int) : Nat := (List.range l.length).countP (fun i => !decide (c ≤ (l.getD i z0).1))
def nx (l : List D) (k : Nat) (d : D) : List D := l.take k ++ d :: l.drop k
theorem Rt.at_lt {l : List D} : ∀ {a : Int}, Rt a l → ∀ i j, i < j → j < l.length → (l.getD i z0).1 < (l.getD j z0).1 := by
  induction l with
  | nil => intro a _ i j _ h; simp at h
  | cons e r ih =>
    intro a h i j hij hj
    cases j with
    | zero => omega
    | succ j =>
      simp only [List.length_cons] at hj
      cases i with
      | zero =>
        simp only [List.getD_cons_zero, List.getD_cons_succ]
        have hm : r.getD j z0 ∈ r := by
          rw [List.getD_eq_getElem?_getD, List.getElem?_eq_getElem (by omega)]; exact List.getElem_mem _
        exact (Rt.mem h.2.2.2.2 _ hm).1
      | succ i =>
        simp only [List.getD_cons_succ]
        exact ih h.2.2.2.2 i j (by omega) (by omega)
/-- the place: all before are less, none behind is -/
theorem countP_at (p : Nat → Bool) (n : Nat) (hm : ∀ a b, a ≤ b → b < n → p a = true → p b = true) : ∃ k, (List.range n).countP (fun i => !p i) = k ∧ k ≤ n ∧ (∀ i, i < k → p i = false) ∧ ∀ i, k ≤ i → i < n → p i = true := by
  induction n with
  | zero => exact ⟨0, rfl, by omega, fun i h => by omega, fun i _ h => by omega⟩
  | succ n ih =>
    obtain ⟨k, hk, hkn, h1, h2⟩ := ih (fun a b hab hb => hm a b hab (by omega))
    rw [List.range_succ, List.countP_append, hk]
    by_cases hp : p n = true
    · exact ⟨k, by simp [hp], by omega, h1, fun i hi hn => by
        by_cases hin : i = n
        · subst hin; exact hp
        · exact h2 i hi (by omega)⟩
    · have hp' : p n = false := by simpa using hp
      have hkk : k = n := by
        rcases Nat.lt_or_ge k n with hlt | hge
        · exact absurd (hm k n (by omega) (by omega) (h2 k (Nat.le_refl _) hlt)) hp
        · omega
      subst hkk
      refine ⟨k + 1, by simp [hp'], by omega, fun i hi => ?_, fun i hi hn => by omega⟩
      by_cases hin : i = k
      · subst hin; exact hp'
      · exact h1 i (by omega)
theorem pl_is {l : List D} {a : Int} (h : Rt a l) (c : Int) : pl l c ≤ l.length ∧ (∀ i, i < pl l c → (l.getD i z0).1 < c) ∧ ∀ i, pl l c ≤ i → i < l.length → c ≤ (l.getD i z0).1 := by
  obtain ⟨k, hk, hkn, h1, h2⟩ := countP_at (fun i => decide (c ≤ (l.getD i z0).1)) l.length (fun x y hxy hy hx => by
    rcases Nat.eq_or_lt_of_le hxy with rfl | hlt
    · exact hx
    · have := h.at_lt x y hlt hy
      simp only [decide_eq_true_eq] at hx ⊢
      omega)
  have hp : pl l c = k := hk
  rw [hp]
  refine ⟨hkn, fun i hi => ?_, fun i hi hn => ?_⟩
  · have := h1 i hi
    simp only [decide_eq_false_iff_not] at this
    omega
  · have := h2 i hi hn
    simpa using this
/-- what stands at a client's place -/
theorem up_pl {l : List D} : ∀ {a : Int} {c : Int} (k : Nat), Rt a l → (∀ i, i < k → (l.getD i z0).1 < c) → (k < l.length → c ≤ (l.getD k z0).1) → up l c = if k < l.length ∧ (l.getD k z0).1 = c then (l.getD k z0).2 else 0 := by
  induction l with
  | nil => intro a c k _ _ _; simp [up]
  | cons e r ih =>
    intro a c k h h1 h2
    cases k with
    | zero =>
      have := h2 (by simp)
      simp only [List.getD_cons_zero] at this
      rw [up]
      by_cases he : e.1 = c
      · rw [if_pos he, if_pos ⟨by simp, by simpa using he⟩]; rfl
      · rw [if_neg he, if_neg (by simp; exact he)]
        exact up_lo h.2.2.2.2 (by omega)
    | succ k =>
      have h10 := h1 0 (by omega)
      simp only [List.getD_cons_zero] at h10
      rw [up, if_neg (by omega), ih (c := c) k h.2.2.2.2 (fun i hi => by have := h1 (i + 1) (by omega); simpa using this) (fun hk => by have := h2 (by simpa using hk); simpa using this)]
      simp only [List.length_cons, List.getD_cons_succ, Nat.add_lt_add_iff_right]
/-- one more, at its place -/
theorem nx_right {l : List D} : ∀ {a : Int} {d : D} (k : Nat), Rt a l → k ≤ l.length → a < d.1 → d.1 ≤ 8 → 1 ≤ d.2 → d.2 ≤ 1073741824 → (∀ i, i < k → (l.getD i z0).1 < d.1) → (k < l.length → d.1 < (l.getD k z0).1) →
    Rt a (nx l k d) ∧ ∀ c, up (nx l k d) c = if d.1 = c then d.2 else up l c := by
  induction l with
  | nil =>
    intro a d k _ hk h1 h2 h3 h4 _ _
    simp at hk
    subst hk
    exact ⟨⟨h1, h2, h3, h4, trivial⟩, fun c => rfl⟩
  | cons e r ih =>
    intro a d k h hk h1 h2 h3 h4 h5 h6
    cases k with
    | zero =>
      have := h6 (by simp)
      simp only [List.getD_cons_zero] at this
      exact ⟨⟨h1, h2, h3, h4, this, h.2⟩, fun c => rfl⟩
    | succ k =>
      have h50 := h5 0 (by omega)
      simp only [List.getD_cons_zero] at h50
      obtain ⟨i1, i2⟩ := ih (d := d) k h.2.2.2.2 (by simpa using hk) h50 h2 h3 h4 (fun i hi => by have := h5 (i + 1) (by omega); simpa using this) (fun hk => by have := h6 (by simpa using hk); simpa using this)
      refine ⟨⟨h.1, h.2.1, h.2.2.1, h.2.2.2.1, i1⟩, fun c => ?_⟩
      show up (e :: nx r k d) c = _
      rw [up, i2, up]
      by_cases hc : e.1 = c
      · rw [if_pos hc, if_pos hc, if_neg (by omega)]
      · rw [if_neg hc, if_neg hc]
/-- one there, made greater -/
theorem st_right {l : List D} : ∀ {a : Int} (k : Nat) (s : Int), Rt a l → k < l.length → 1 ≤ s → s ≤ 1073741824 →
    Rt a (l.set k ((l.getD k z0).1, s)) ∧ ∀ c, up (l.set k ((l.getD k z0).1, s)) c = if (l.getD k z0).1 = c then s else up l c := by
  induction l with
  | nil => intro a k s _ hk; simp at hk
  | cons e r ih =>
    intro a k s h hk h1 h2
    cases k with
    | zero =>
      refine ⟨⟨h.1, h.2.1, h1, h2, h.2.2.2.2⟩, fun c => ?_⟩
      simp only [List.set_cons_zero, List.getD_cons_zero, up]
      split <;> simp_all
    | succ k =>
      obtain ⟨i1, i2⟩ := ih k s h.2.2.2.2 (by simpa using hk) h1 h2
      simp only [List.set_cons_succ, List.getD_cons_succ]
      refine ⟨⟨h.1, h.2.1, h.2.2.1, h.2.2.2.1, i1⟩, fun c => ?_⟩
      rw [up, i2, up]
      have hm : r.getD k z0 ∈ r := by
        rw [List.getD_eq_getElem?_getD, List.getElem?_eq_getElem (by simpa using hk)]; exact List.getElem_mem _
      have := (Rt.mem h.2.2.2.2 _ hm).1
      by_cases hc : e.1 = c
      · rw [if_pos hc, if_pos hc, if_neg (by omega)]
      · rw [if_neg hc, if_neg hc]
/-- the vector of a function: of each client all up to its number -/
def vecFrom (f : Int → Int) : Nat → Int → List D
  | 0, _ => []
  | n + 1, c => if 0 < f c then (c, f c) :: vecFrom f n (c + 1) else vecFrom f n (c + 1)
def vecOf (f : Int → Int) : List D := vecFrom f 8 1
theorem vecFrom_right (f : Int → Int) (hf : ∀ c, f c ≤ 1073741824) : ∀ (n : Nat) (a c : Int), a < c → c + n ≤ 9 → Rt a (vecFrom f n c)
  | 0, _, _, _, _ => trivial
  | n + 1, a, c, h1, h2 => by
    rw [vecFrom]
    split
    · exact ⟨h1, by show c ≤ 8; omega, by show 1 ≤ f c; omega, hf c, vecFrom_right f hf n c (c + 1) (by omega) (by omega)⟩
    · exact vecFrom_right f hf n a (c + 1) (by omega) (by omega)
theorem vecFrom_up (f : Int → Int) : ∀ (n : Nat) (c x : Int), up (vecFrom f n c) x = if c ≤ x ∧ x < c + n ∧ 0 < f x then f x else 0
  | 0, c, x => by rw [vecFrom, up, if_neg (by omega)]
  | n + 1, c, x => by
    rw [vecFrom]
    by_cases hc : c = x
    · subst hc
      split
      · rename_i h; rw [up, if_pos rfl, if_pos (by omega)]
      · rename_i h; rw [vecFrom_up f n, if_neg (by omega), if_neg (by omega)]
    · have e : up (if 0 < f c then (c, f c) :: vecFrom f n (c + 1) else vecFrom f n (c + 1)) x = up (vecFrom f n (c + 1)) x := by
        split
        · rw [up, if_neg hc]
        · rfl
      rw [e, vecFrom_up f n]
      by_cases h : c ≤ x ∧ x < c + (n + 1 : Nat) ∧ 0 < f x
      · rw [if_pos (by omega), if_pos h]
      · rw [if_neg (by omega), if_neg h]
theorem vecOf_right (f : Int → Int) (hf : ∀ c, f c ≤ 1073741824) : Rt 0 (vecOf f) := vecFrom_right f hf 8 0 1 (by decide) (by decide)
theorem vecOf_up (f : Int → Int) (h0 : ∀ c, 0 ≤ f c) (hlo : ∀ c, c ≤ 0 → f c = 0) (hhi : ∀ c, 8 < c → f c = 0) (c : Int) : up (vecOf f) c = f c := by
  rw [vecOf, vecFrom_up]
  have h1 := h0 c
  by_cases h : 1 ≤ c ∧ c < 1 + (8 : Nat) ∧ 0 < f c
  · rw [if_pos h]
  · rw [if_neg h]
    by_cases h2 : c ≤ 0
    · rw [hlo c h2]
    · by_cases h3 : 8 < c
      · rw [hhi c h3]
      · omega
theorem um_bd {l : List D} {a : Int} (h : Rt a l) (c : Int) : um l c ≤ 1073741824 := by rw [um_up h]; exact (up_bd h).2
theorem allB_cons (l : List D) (R : List (List D)) : allB (l :: R) = (rtB 0 l && allB R) := rfl
theorem allB_mem {R : List (List D)} (h : allB R = true) : ∀ l ∈ R, Rt 0 l := by
  induction R with
  | nil => intro l hl; cases hl
  | cons x r ih =>
    rw [allB_cons, Bool.and_eq_true] at h
    intro l hl
    rcases List.mem_cons.1 hl with rfl | hl
    · exact (rtB_iff _ _).1 h.1
    · exact ih h.2 l hl
theorem allB_of {R : List (List D)} (h : ∀ l ∈ R, Rt 0 l) : allB R = true := by
  induction R with
  | nil => rfl
  | cons x r ih =>
    rw [allB_cons, Bool.and_eq_true]
    exact ⟨(rtB_iff _ _).2 (h x (by simp)), ih (fun l hl => h l (by simp [hl]))⟩
theorem mx_bd {R : List (List D)} (h : ∀ l ∈ R, Rt 0 l) (c : Int) : mx R c ≤ 1073741824 ∧ (c ≤ 0 → mx R c = 0) ∧ (8 < c → mx R c = 0) := by
  induction R with
  | nil => simp [mx]
  | cons x r ih =>
    obtain ⟨i1, i2, i3⟩ := ih (fun l hl => h l (by simp [hl]))
    have hx := h x (by simp)
    have := um_bd hx c
    rw [mx]
    refine ⟨by omega, fun hc => ?_, fun hc => ?_⟩
    · rw [um_up hx, up_lo hx hc, i2 hc]; rfl
    · rw [um_up hx, up_hi hx hc, i3 hc]; rfl
/-- what all rows have together; none, unless all are vectors -/
def joinF (R : List (List D)) : List D := if allB R then vecOf (mx R) else []
theorem joinF_right (R : List (List D)) : Rt 0 (joinF R) := by
  unfold joinF
  split
  · rename_i h; exact vecOf_right _ (fun c => (mx_bd (allB_mem h) c).1)
  · trivial
theorem joinF_up {R : List (List D)} (h : allB R = true) (c : Int) : up (joinF R) c = mx R c := by
  unfold joinF
  rw [if_pos h]
  exact vecOf_up _ (mx_nn R) (fun c => (mx_bd (allB_mem h) c).2.1) (fun c => (mx_bd (allB_mem h) c).2.2) c
theorem joinF_no {R : List (List D)} (h : allB R = false) : joinF R = [] := by unfold joinF; rw [if_neg (by simp [h])]
theorem joinF_is {R : List (List D)} {l : List D} (h : allB R = true) (hl : Rt 0 l) (hu : ∀ c, up l c = mx R c) : l = joinF R :=
  up_ext hl (joinF_right R) (fun c => by rw [hu, joinF_up h])
def addF (v : List D) (ds : List D) : List D := joinF (v :: ds.map fun d => [d])
end Ve
end Go.Proofs.Ytohcoihdijemfaa
