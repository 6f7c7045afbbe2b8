/- texts merged, part 2: XVeM XRcM XStr XVeSearch XVeMem XVePlace XVeRight XVeCovers XRcMem XRcDots XRcWork XFlowOw XRcText XRcCalls XWiRefPut XVeRef XVeRefHas XRcRef -/
import Derived.WalkKit
import Derived.Test.YtohcoihdijemfaaGreatTlB1
import Derived.Lib.ConvBytes
import Derived.Laws.BytesString
import Derived.Shelf.SlSorted.Search
import Derived.Test.YtohcoihdijemfaaGreatProg
import Derived.Laws.AppendOwn
import Derived.Laws.OwnMore
import Derived.Lib.Hide
import Derived.WalkSpells
import Derived.WalkLawsBesides
import Derived.BigQuiet
import Derived.Deep.QuietTactic
import Derived.Outline
import Derived.BigGuardPart
/- Vectors of dots: mathematics. A dot is a pair of numbers (client, seq). -/
namespace Go.Proofs.YtohcoihdijemfaaGreat
namespace Ve

abbrev D := Int × Int
abbrev z0 : D := (0, 0)
/-- right behind a client: clients rise, all are right -/
def Rt : Int → List D → Prop
  | _, [] => True
  | a, d :: r => a < d.1 ∧ d.1 ≤ 8 ∧ 1 ≤ d.2 ∧ d.2 ≤ 1073741824 ∧ Rt d.1 r
def rtB : Int → List D → Bool
  | _, [] => true
  | a, d :: r => (decide (a < d.1) && decide (d.1 ≤ 8) && decide (1 ≤ d.2) && decide (d.2 ≤ 1073741824)) && rtB d.1 r
theorem rtB_iff (l : List D) : ∀ a, rtB a l = true ↔ Rt a l := by
  induction l with
  | nil => intro a; simp [rtB, Rt]
  | cons d r ih => intro a; simp [rtB, Rt, ih, and_assoc]
theorem rtB_false (l : List D) (a : Int) : rtB a l = false ↔ ¬ Rt a l := by rw [← rtB_iff]; simp
/-- up to which number a row has a client's: the first that is met; 0: none -/
def up : List D → Int → Int
  | [], _ => 0
  | d :: r, c => if d.1 = c then d.2 else up r c
/-- the greatest number of a client's -/
def um : List D → Int → Int
  | [], _ => 0
  | d :: r, c => if d.1 = c then max d.2 (um r c) else um r c
theorem drop_at (l : List D) (k : Nat) (h : k < l.length) : l.drop k = l.getD k z0 :: l.drop (k + 1) := by
  rw [List.drop_eq_getElem_cons h, List.getD_eq_getElem?_getD, List.getElem?_eq_getElem h]; rfl
theorem drop_end (l : List D) (k : Nat) (h : l.length ≤ k) : l.drop k = [] := List.drop_eq_nil_iff.2 h

theorem Rt.low {l : List D} : ∀ {a b : Int}, b ≤ a → Rt a l → Rt b l := by
  cases l with
  | nil => intro a b _ _; trivial
  | cons d r => intro a b hab h; exact ⟨by have := h.1; omega, h.2⟩
theorem Rt.mem {l : List D} : ∀ {a : Int}, Rt a l → ∀ d ∈ l, a < d.1 ∧ d.1 ≤ 8 ∧ 1 ≤ d.2 ∧ d.2 ≤ 1073741824 := by
  induction l with
  | nil => intro a _ d hd; cases hd
  | cons e r ih =>
    intro a h d hd
    rcases List.mem_cons.1 hd with rfl | hd
    · exact ⟨h.1, h.2.1, h.2.2.1, h.2.2.2.1⟩
    · have := ih h.2.2.2.2 d hd
      have := h.1
      omega
theorem Rt.len {l : List D} : ∀ {a : Int}, Rt a l → a ≤ 8 → (l.length : Int) ≤ 8 - a := by
  induction l with
  | nil => intro a _ h; simp; omega
  | cons e r ih => intro a h ha; have := ih h.2.2.2.2 h.2.1; have := h.1; simp; omega
theorem Rt.drop {l : List D} (k : Nat) : ∀ {a : Int}, Rt a l → Rt a (l.drop k) := by
  induction k generalizing l with
  | zero => intro a h; simpa using h
  | succ k ih =>
    cases l with
    | nil => intro a _; simp [Rt]
    | cons e r => intro a h; exact ih (h.2.2.2.2.low (by have := h.1; omega))
theorem up_lo {l : List D} : ∀ {a : Int} {c : Int}, Rt a l → c ≤ a → up l c = 0 := by
  induction l with
  | nil => intros; rfl
  | cons e r ih => intro a c h hc; have := h.1; rw [up, if_neg (by omega)]; exact ih h.2.2.2.2 (by omega)
theorem up_hi {l : List D} : ∀ {a : Int} {c : Int}, Rt a l → 8 < c → up l c = 0 := by
  induction l with
  | nil => intros; rfl
  | cons e r ih => intro a c h hc; have := h.2.1; rw [up, if_neg (by omega)]; exact ih h.2.2.2.2 hc
theorem up_bd {l : List D} : ∀ {a : Int} {c : Int}, Rt a l → 0 ≤ up l c ∧ up l c ≤ 1073741824 := by
  induction l with
  | nil => intros; simp [up]
  | cons e r ih =>
    intro a c h
    have h1 := h.2.2.1
    have h2 := h.2.2.2.1
    rw [up]
    split
    · omega
    · exact ih h.2.2.2.2
theorem um_up {l : List D} : ∀ {a : Int}, Rt a l → ∀ c, um l c = up l c := by
  induction l with
  | nil => intros; rfl
  | cons e r ih =>
    intro a h c
    rw [um, up, ih h.2.2.2.2]
    split
    · rename_i he
      rw [up_lo h.2.2.2.2 (by omega)]
      have := h.2.2.1
      omega
    · rfl
/-- two vectors that have the same are the same -/
theorem up_ext {l : List D} : ∀ {m : List D} {a : Int}, Rt a l → Rt a m → (∀ c, up l c = up m c) → l = m := by
  induction l with
  | nil =>
    intro m a _ hm h
    cases m with
    | nil => rfl
    | cons e s => have := h e.1; rw [up, up, if_pos rfl] at this; have := hm.2.2.1; omega
  | cons d r ih =>
    intro m a hl hm h
    cases m with
    | nil => have := h d.1; rw [up, up, if_pos rfl] at this; have := hl.2.2.1; omega
    | cons e s =>
      have h1 := hl.2.2.1
      have h2 := hm.2.2.1
      have hd := h d.1
      have he := h e.1
      rw [up, if_pos rfl, up] at hd
      rw [up, up, if_pos rfl] at he
      have hde : d.1 = e.1 := by
        rcases Int.lt_trichotomy d.1 e.1 with hlt | heq | hgt
        · rw [if_neg (by omega), up_lo hm.2.2.2.2 (by omega)] at hd; omega
        · exact heq
        · rw [if_neg (by omega), up_lo hl.2.2.2.2 (by omega)] at he; omega
      rw [if_pos hde.symm] at hd
      obtain ⟨d1, d2⟩ := d
      obtain ⟨e1, e2⟩ := e
      simp only at hde hd
      subst hde
      subst hd
      rw [ih hl.2.2.2.2 hm.2.2.2.2 (fun c => by
        have hc := h c
        rw [up, up] at hc
        by_cases hcc : d1 = c
        · subst hcc
          rw [up_lo hl.2.2.2.2 (Int.le_refl _), up_lo hm.2.2.2.2 (Int.le_refl _)]
        · simpa [hcc] using hc)]
theorem um_nn (l : List D) (c : Int) : 0 ≤ um l c := by
  induction l with
  | nil => simp [um]
  | cons d r ih => rw [um]; split <;> omega
/-- what all rows have -/
def mx : List (List D) → Int → Int
  | [], _ => 0
  | l :: r, c => max (um l c) (mx r c)
theorem mx_nn (rs : List (List D)) (c : Int) : 0 ≤ mx rs c := by
  induction rs with
  | nil => simp [mx]
  | cons l r ih => rw [mx]; omega
def allB : List (List D) → Bool
  | [] => true
  | l :: r => rtB 0 l && allB r
/-- has all of another one -/
def covB (a : List D) : List D → Bool
  | [] => true
  | d :: r => decide (d.2 ≤ up a d.1) && covB a r
def okD (d : D) : Bool := decide (1 ≤ d.1) && decide (d.1 ≤ 8) && decide (1 ≤ d.2) && decide (d.2 ≤ 1073741824)
theorem okD_iff (d : D) : okD d = true ↔ Rt 0 [d] := by
  simp [okD, Rt, and_assoc]; omega
theorem rtB_one (d : D) : rtB 0 [d] = okD d := by
  rw [Bool.eq_iff_iff, okD_iff, rtB_iff]
theorem covB_iff (a b : List D) : covB a b = true ↔ ∀ d ∈ b, d.2 ≤ up a d.1 := by
  induction b with
  | nil => simp [covB]
  | cons d r ih => simp [covB, ih]
theorem up_mem {l : List D} : ∀ {c : Int}, up l c ≠ 0 → (c, up l c) ∈ l := by
  induction l with
  | nil => intro c h; exact absurd rfl h
  | cons d r ih =>
    intro c h
    rw [up] at h ⊢
    split
    · rename_i hd; subst hd; simp
    · rename_i hd; rw [if_neg hd] at h; exact List.mem_cons_of_mem _ (ih h)
theorem mem_up {l : List D} : ∀ {a : Int}, Rt a l → ∀ d ∈ l, up l d.1 = d.2 := by
  induction l with
  | nil => intro a _ d hd; cases hd
  | cons e r ih =>
    intro a h d hd
    rcases List.mem_cons.1 hd with rfl | hd
    · rw [up, if_pos rfl]
    · have := (Rt.mem h.2.2.2.2 d hd).1
      rw [up, if_neg (by omega)]
      exact ih h.2.2.2.2 d hd
theorem covB_up {a b : List D} (ha : Rt 0 a) (hb : Rt 0 b) : covB a b = true ↔ ∀ c, up b c ≤ up a c := by
  rw [covB_iff]
  constructor
  · intro h c
    by_cases h0 : up b c = 0
    · have := (up_bd (c := c) ha).1; omega
    · exact h _ (up_mem h0)
  · intro h d hd
    have := h d.1
    rw [mem_up hb d hd] at this
    exact this
/-- the place of a client -/
def pl (l : List D) (c : Int) : Nat := (List.range l.length).countP (fun i => !decide (c ≤ (l.getD i z0).1))
def nx (l : List D) (k : Nat) (d : D) : List D := l.take k ++ d :: l.drop k
theorem Rt.at_lt {l : List D} : ∀ {a : Int}, Rt a l → ∀ i j, i < j → j < l.length → (l.getD i z0).1 < (l.getD j z0).1 := by
  induction l with
  | nil => intro a _ i j _ h; simp at h
  | cons e r ih =>
    intro a h i j hij hj
    cases j with
    | zero => omega
    | succ j =>
      simp only [List.length_cons] at hj
      cases i with
      | zero =>
        simp only [List.getD_cons_zero, List.getD_cons_succ]
        have hm : r.getD j z0 ∈ r := by
          rw [List.getD_eq_getElem?_getD, List.getElem?_eq_getElem (by omega)]; exact List.getElem_mem _
        exact (Rt.mem h.2.2.2.2 _ hm).1
      | succ i =>
        simp only [List.getD_cons_succ]
        exact ih h.2.2.2.2 i j (by omega) (by omega)
/-- the place: all before are less, none behind is -/
theorem countP_at (p : Nat → Bool) (n : Nat) (hm : ∀ a b, a ≤ b → b < n → p a = true → p b = true) : ∃ k, (List.range n).countP (fun i => !p i) = k ∧ k ≤ n ∧ (∀ i, i < k → p i = false) ∧ ∀ i, k ≤ i → i < n → p i = true := by
  induction n with
  | zero => exact ⟨0, rfl, by omega, fun i h => by omega, fun i _ h => by omega⟩
  | succ n ih =>
    obtain ⟨k, hk, hkn, h1, h2⟩ := ih (fun a b hab hb => hm a b hab (by omega))
    rw [List.range_succ, List.countP_append, hk]
    by_cases hp : p n = true
    · exact ⟨k, by simp [hp], by omega, h1, fun i hi hn => by
        by_cases hin : i = n
        · subst hin; exact hp
        · exact h2 i hi (by omega)⟩
    · have hp' : p n = false := by simpa using hp
      have hkk : k = n := by
        rcases Nat.lt_or_ge k n with hlt | hge
        · exact absurd (hm k n (by omega) (by omega) (h2 k (Nat.le_refl _) hlt)) hp
        · omega
      subst hkk
      refine ⟨k + 1, by simp [hp'], by omega, fun i hi => ?_, fun i hi hn => by omega⟩
      by_cases hin : i = k
      · subst hin; exact hp'
      · exact h1 i (by omega)
theorem pl_is {l : List D} {a : Int} (h : Rt a l) (c : Int) : pl l c ≤ l.length ∧ (∀ i, i < pl l c → (l.getD i z0).1 < c) ∧ ∀ i, pl l c ≤ i → i < l.length → c ≤ (l.getD i z0).1 := by
  obtain ⟨k, hk, hkn, h1, h2⟩ := countP_at (fun i => decide (c ≤ (l.getD i z0).1)) l.length (fun x y hxy hy hx => by
    rcases Nat.eq_or_lt_of_le hxy with rfl | hlt
    · exact hx
    · have := h.at_lt x y hlt hy
      simp only [decide_eq_true_eq] at hx ⊢
      omega)
  have hp : pl l c = k := hk
  rw [hp]
  refine ⟨hkn, fun i hi => ?_, fun i hi hn => ?_⟩
  · have := h1 i hi
    simp only [decide_eq_false_iff_not] at this
    omega
  · have := h2 i hi hn
    simpa using this
/-- what stands at a client's place -/
theorem up_pl {l : List D} : ∀ {a : Int} {c : Int} (k : Nat), Rt a l → (∀ i, i < k → (l.getD i z0).1 < c) → (k < l.length → c ≤ (l.getD k z0).1) → up l c = if k < l.length ∧ (l.getD k z0).1 = c then (l.getD k z0).2 else 0 := by
  induction l with
  | nil => intro a c k _ _ _; simp [up]
  | cons e r ih =>
    intro a c k h h1 h2
    cases k with
    | zero =>
      have := h2 (by simp)
      simp only [List.getD_cons_zero] at this
      rw [up]
      by_cases he : e.1 = c
      · rw [if_pos he, if_pos ⟨by simp, by simpa using he⟩]; rfl
      · rw [if_neg he, if_neg (by simp; exact he)]
        exact up_lo h.2.2.2.2 (by omega)
    | succ k =>
      have h10 := h1 0 (by omega)
      simp only [List.getD_cons_zero] at h10
      rw [up, if_neg (by omega), ih (c := c) k h.2.2.2.2 (fun i hi => by have := h1 (i + 1) (by omega); simpa using this) (fun hk => by have := h2 (by simpa using hk); simpa using this)]
      simp only [List.length_cons, List.getD_cons_succ, Nat.add_lt_add_iff_right]
/-- one more, at its place -/
theorem nx_right {l : List D} : ∀ {a : Int} {d : D} (k : Nat), Rt a l → k ≤ l.length → a < d.1 → d.1 ≤ 8 → 1 ≤ d.2 → d.2 ≤ 1073741824 → (∀ i, i < k → (l.getD i z0).1 < d.1) → (k < l.length → d.1 < (l.getD k z0).1) →
    Rt a (nx l k d) ∧ ∀ c, up (nx l k d) c = if d.1 = c then d.2 else up l c := by
  induction l with
  | nil =>
    intro a d k _ hk h1 h2 h3 h4 _ _
    simp at hk
    subst hk
    exact ⟨⟨h1, h2, h3, h4, trivial⟩, fun c => rfl⟩
  | cons e r ih =>
    intro a d k h hk h1 h2 h3 h4 h5 h6
    cases k with
    | zero =>
      have := h6 (by simp)
      simp only [List.getD_cons_zero] at this
      exact ⟨⟨h1, h2, h3, h4, this, h.2⟩, fun c => rfl⟩
    | succ k =>
      have h50 := h5 0 (by omega)
      simp only [List.getD_cons_zero] at h50
      obtain ⟨i1, i2⟩ := ih (d := d) k h.2.2.2.2 (by simpa using hk) h50 h2 h3 h4 (fun i hi => by have := h5 (i + 1) (by omega); simpa using this) (fun hk => by have := h6 (by simpa using hk); simpa using this)
      refine ⟨⟨h.1, h.2.1, h.2.2.1, h.2.2.2.1, i1⟩, fun c => ?_⟩
      show up (e :: nx r k d) c = _
      rw [up, i2, up]
      by_cases hc : e.1 = c
      · rw [if_pos hc, if_pos hc, if_neg (by omega)]
      · rw [if_neg hc, if_neg hc]
/-- one there, made greater -/
theorem st_right {l : List D} : ∀ {a : Int} (k : Nat) (s : Int), Rt a l → k < l.length → 1 ≤ s → s ≤ 1073741824 →
    Rt a (l.set k ((l.getD k z0).1, s)) ∧ ∀ c, up (l.set k ((l.getD k z0).1, s)) c = if (l.getD k z0).1 = c then s else up l c := by
  induction l with
  | nil => intro a k s _ hk; simp at hk
  | cons e r ih =>
    intro a k s h hk h1 h2
    cases k with
    | zero =>
      refine ⟨⟨h.1, h.2.1, h1, h2, h.2.2.2.2⟩, fun c => ?_⟩
      simp only [List.set_cons_zero, List.getD_cons_zero, up]
      split <;> simp_all
    | succ k =>
      obtain ⟨i1, i2⟩ := ih k s h.2.2.2.2 (by simpa using hk) h1 h2
      simp only [List.set_cons_succ, List.getD_cons_succ]
      refine ⟨⟨h.1, h.2.1, h.2.2.1, h.2.2.2.1, i1⟩, fun c => ?_⟩
      rw [up, i2, up]
      have hm : r.getD k z0 ∈ r := by
        rw [List.getD_eq_getElem?_getD, List.getElem?_eq_getElem (by simpa using hk)]; exact List.getElem_mem _
      have := (Rt.mem h.2.2.2.2 _ hm).1
      by_cases hc : e.1 = c
      · rw [if_pos hc, if_pos hc, if_neg (by omega)]
      · rw [if_neg hc, if_neg hc]
/-- the vector of a function: of each client all up to its number -/
def vecFrom (f : Int → Int) : Nat → Int → List D
  | 0, _ => []
  | n + 1, c => if 0 < f c then (c, f c) :: vecFrom f n (c + 1) else vecFrom f n (c + 1)
def vecOf (f : Int → Int) : List D := vecFrom f 8 1
theorem vecFrom_right (f : Int → Int) (hf : ∀ c, f c ≤ 1073741824) : ∀ (n : Nat) (a c : Int), a < c → c + n ≤ 9 → Rt a (vecFrom f n c)
  | 0, _, _, _, _ => trivial
  | n + 1, a, c, h1, h2 => by
    rw [vecFrom]
    split
    · exact ⟨h1, by show c ≤ 8; omega, by show 1 ≤ f c; omega, hf c, vecFrom_right f hf n c (c + 1) (by omega) (by omega)⟩
    · exact vecFrom_right f hf n a (c + 1) (by omega) (by omega)
theorem vecFrom_up (f : Int → Int) : ∀ (n : Nat) (c x : Int), up (vecFrom f n c) x = if c ≤ x ∧ x < c + n ∧ 0 < f x then f x else 0
  | 0, c, x => by rw [vecFrom, up, if_neg (by omega)]
  | n + 1, c, x => by
    rw [vecFrom]
    by_cases hc : c = x
    · subst hc
      split
      · rename_i h; rw [up, if_pos rfl, if_pos (by omega)]
      · rename_i h; rw [vecFrom_up f n, if_neg (by omega), if_neg (by omega)]
    · have e : up (if 0 < f c then (c, f c) :: vecFrom f n (c + 1) else vecFrom f n (c + 1)) x = up (vecFrom f n (c + 1)) x := by
        split
        · rw [up, if_neg hc]
        · rfl
      rw [e, vecFrom_up f n]
      by_cases h : c ≤ x ∧ x < c + (n + 1 : Nat) ∧ 0 < f x
      · rw [if_pos (by omega), if_pos h]
      · rw [if_neg (by omega), if_neg h]
theorem vecOf_right (f : Int → Int) (hf : ∀ c, f c ≤ 1073741824) : Rt 0 (vecOf f) := vecFrom_right f hf 8 0 1 (by decide) (by decide)
theorem vecOf_up (f : Int → Int) (h0 : ∀ c, 0 ≤ f c) (hlo : ∀ c, c ≤ 0 → f c = 0) (hhi : ∀ c, 8 < c → f c = 0) (c : Int) : up (vecOf f) c = f c := by
  rw [vecOf, vecFrom_up]
  have h1 := h0 c
  by_cases h : 1 ≤ c ∧ c < 1 + (8 : Nat) ∧ 0 < f c
  · rw [if_pos h]
  · rw [if_neg h]
    by_cases h2 : c ≤ 0
    · rw [hlo c h2]
    · by_cases h3 : 8 < c
      · rw [hhi c h3]
      · omega
theorem um_bd {l : List D} {a : Int} (h : Rt a l) (c : Int) : um l c ≤ 1073741824 := by rw [um_up h]; exact (up_bd h).2
theorem allB_cons (l : List D) (R : List (List D)) : allB (l :: R) = (rtB 0 l && allB R) := rfl
theorem allB_mem {R : List (List D)} (h : allB R = true) : ∀ l ∈ R, Rt 0 l := by
  induction R with
  | nil => intro l hl; cases hl
  | cons x r ih =>
    rw [allB_cons, Bool.and_eq_true] at h
    intro l hl
    rcases List.mem_cons.1 hl with rfl | hl
    · exact (rtB_iff _ _).1 h.1
    · exact ih h.2 l hl
theorem allB_of {R : List (List D)} (h : ∀ l ∈ R, Rt 0 l) : allB R = true := by
  induction R with
  | nil => rfl
  | cons x r ih =>
    rw [allB_cons, Bool.and_eq_true]
    exact ⟨(rtB_iff _ _).2 (h x (by simp)), ih (fun l hl => h l (by simp [hl]))⟩
theorem mx_bd {R : List (List D)} (h : ∀ l ∈ R, Rt 0 l) (c : Int) : mx R c ≤ 1073741824 ∧ (c ≤ 0 → mx R c = 0) ∧ (8 < c → mx R c = 0) := by
  induction R with
  | nil => simp [mx]
  | cons x r ih =>
    obtain ⟨i1, i2, i3⟩ := ih (fun l hl => h l (by simp [hl]))
    have hx := h x (by simp)
    have := um_bd hx c
    rw [mx]
    refine ⟨by omega, fun hc => ?_, fun hc => ?_⟩
    · rw [um_up hx, up_lo hx hc, i2 hc]; rfl
    · rw [um_up hx, up_hi hx hc, i3 hc]; rfl
/-- what all rows have together; none, unless all are vectors -/
def joinF (R : List (List D)) : List D := if allB R then vecOf (mx R) else []
theorem joinF_right (R : List (List D)) : Rt 0 (joinF R) := by
  unfold joinF
  split
  · rename_i h; exact vecOf_right _ (fun c => (mx_bd (allB_mem h) c).1)
  · trivial
theorem joinF_up {R : List (List D)} (h : allB R = true) (c : Int) : up (joinF R) c = mx R c := by
  unfold joinF
  rw [if_pos h]
  exact vecOf_up _ (mx_nn R) (fun c => (mx_bd (allB_mem h) c).2.1) (fun c => (mx_bd (allB_mem h) c).2.2) c
theorem joinF_no {R : List (List D)} (h : allB R = false) : joinF R = [] := by unfold joinF; rw [if_neg (by simp [h])]
theorem joinF_is {R : List (List D)} {l : List D} (h : allB R = true) (hl : Rt 0 l) (hu : ∀ c, up l c = mx R c) : l = joinF R :=
  up_ext hl (joinF_right R) (fun c => by rw [hu, joinF_up h])
def addF (v : List D) (ds : List D) : List D := joinF (v :: ds.map fun d => [d])
end Ve
end Go.Proofs.YtohcoihdijemfaaGreat

/- Records: mathematics. Their text and bytes, and what is read of any bytes. -/
namespace Go.Proofs.YtohcoihdijemfaaGreat
open Wi Ve
namespace Rc

structure R where
  key : List Nat
  cl : Int
  sq : Int
  cx : List D
  gone : Bool
  val : List Nat
  sig : List Nat
def R.dot (r : R) : D := (r.cl, r.sq)
def hasD (v : List D) (d : D) : Bool := rtB 0 v && okD d && decide (d.2 ≤ up v d.1)
def placedB (r : R) : Bool := okD r.dot && rtB 0 r.cx && !hasD r.cx r.dot
def keyB (r : R) : Bool := decide (1 ≤ r.key.length) && decide (r.key.length ≤ 64)
def valB (r : R) : Bool := decide (r.val.length ≤ if r.gone then 0 else 1024)
def shapeB (r : R) : Bool := keyB r && placedB r && valB r
def rightB (r : R) : Bool := shapeB r && decide (r.sig.length = 64)
def goneN (g : Bool) : Nat := if g then 1 else 0
def dotL (d : D) : List Nat := encN d.1 ++ encN d.2
def dotsL (l : List D) : List Nat := l.flatMap dotL
def rowL (l : List Nat) : List Nat := encN (l.length : Int) ++ l
def textL (r : R) : List Nat := 1 :: (rowL r.key ++ (dotL r.dot ++ (encN (r.cx.length : Int) ++ (dotsL r.cx ++ (goneN r.gone :: rowL r.val)))))
def putL (r : R) : List Nat := textL r ++ r.sig
def overB (a b : R) : Bool := shapeB a && shapeB b && decide (a.key = b.key) && hasD a.cx b.dot

/-- dots, one by one -/
def nS (st : St) : Nat → List D × St
  | 0 => ([], st)
  | k + 1 => ((nS st k).1 ++ [(toI (numS (nS st k).2).1, toI (numS (numS (nS st k).2).2).1)], (numS (numS (nS st k).2).2).2)
/-- bytes, one by one -/
def sS (st : St) : Nat → List Nat × St
  | 0 => ([], st)
  | k + 1 => ((sS st k).1 ++ [(byteS (sS st k).2).1], (byteS (sS st k).2).2)
/-- what is read, part by part: the state behind each -/
structure Rd where
  kind : Nat
  key : List Nat
  cl : Int
  sq : Int
  n : Int
  cx : List D
  gone : Nat
  val : List Nat
  sig : List Nat
  left : St
def s1 (st : St) : St := (byteS st).2
def s2 (st : St) : St := (bytesS 64 (s1 st)).2
def s3 (st : St) : St := (numS (s2 st)).2
def s4 (st : St) : St := (numS (s3 st)).2
def s5 (st : St) : St := (countS 8 (s4 st)).2
def cN (st : St) : Nat := (countS 8 (s4 st)).1.toNat
def s6 (st : St) : St := (nS (s5 st) (cN st)).2
def s7 (st : St) : St := (byteS (s6 st)).2
def s8 (st : St) : St := (bytesS 1024 (s7 st)).2
def s9 (st : St) : St := (sS (s8 st) 64).2
def kindR (st : St) : Nat := (byteS st).1
def goneR (st : St) : Nat := (byteS (s6 st)).1
def recR (st : St) : R where
  key := (bytesS 64 (s1 st)).1
  cl := toI (numS (s2 st)).1
  sq := toI (numS (s3 st)).1
  cx := (nS (s5 st) (cN st)).1
  gone := decide (goneR st = 1)
  val := (bytesS 1024 (s7 st)).1
  sig := (sS (s8 st) 64).1
/-- what Get tells -/
def getB (b : List Nat) : Bool := rightB (recR (some b)) && decide (putL (recR (some b)) = b)

theorem nS_succ (st : St) (k : Nat) : nS st (k + 1) = ((nS st k).1 ++ [(toI (numS (nS st k).2).1, toI (numS (numS (nS st k).2).2).1)], (numS (numS (nS st k).2).2).2) := rfl
theorem sS_succ (st : St) (k : Nat) : sS st (k + 1) = ((sS st k).1 ++ [(byteS (sS st k).2).1], (byteS (sS st k).2).2) := rfl
theorem nS_len (st : St) (k : Nat) : (nS st k).1.length = k := by
  induction k with
  | zero => rfl
  | succ k ih => simp [nS, ih]
theorem sS_len (st : St) (k : Nat) : (sS st k).1.length = k := by
  induction k with
  | zero => rfl
  | succ k ih => simp [sS, ih]
/-- bytes alone -/
def OkS (st : St) : Prop := ∀ l, st = some l → ∀ b ∈ l, b < 256

/-- few bytes -/
def Sm (st : St) : Prop := ∀ l, st = some l → l.length ≤ 1000000
theorem tells_sm {α : Type} (z : α) (f : List Nat → Option (α × List Nat)) (hf : ∀ l x r, f l = some (x, r) → r.length ≤ l.length) {st : St} (h : Sm st) : Sm (tells z f st).2 := by
  intro l hl
  cases st with
  | none => cases hl
  | some l0 =>
    unfold tells at hl
    cases hf2 : f l0 with
    | none => simp only [hf2] at hl; cases hl
    | some p =>
      obtain ⟨x, r⟩ := p
      simp only [hf2, Option.some.injEq] at hl
      subst hl
      exact Nat.le_trans (hf _ _ _ hf2) (h l0 rfl)
theorem rdWord_le (k : Nat) (l : List Nat) (x : Nat) (r : List Nat) (h : rdWord k l = some (x, r)) : r.length ≤ l.length := by
  unfold rdWord at h
  split at h
  · cases h; rw [List.length_drop]; omega
  · cases h
theorem rdCount_le (most : Int) (l : List Nat) (x : Int) (r : List Nat) (h : rdCount most l = some (x, r)) : r.length ≤ l.length := by
  unfold rdCount at h
  split at h
  · cases h; rw [List.length_drop]; omega
  · cases h
theorem rdBytes_le (most : Int) (l : List Nat) (x : List Nat) (r : List Nat) (h : rdBytes most l = some (x, r)) : r.length ≤ l.length := by
  unfold rdBytes at h
  split at h
  · cases h
  · rename_i n r' hc
    have := rdCount_le _ _ _ _ hc
    split at h
    · cases h; rw [List.length_drop]; omega
    · cases h
theorem count_nn {most : Int} (h : 0 ≤ most) (st : St) : 0 ≤ (countS most st).1 ∧ (countS most st).1 ≤ most := by
  cases st with
  | none => exact ⟨Int.le_refl _, h⟩
  | some l =>
    unfold countS tells rdCount
    by_cases h8 : 8 ≤ l.length ∧ 0 ≤ toI (wN (l.take 8)) ∧ toI (wN (l.take 8)) ≤ most
    · simp only [if_pos h8]; exact h8.2
    · simp only [if_neg h8]; exact ⟨Int.le_refl _, h⟩
theorem cN_is (st : St) : (countS 8 (s4 st)).1 = ((cN st : Nat) : Int) ∧ cN st ≤ 8 := by
  have h := count_nn (most := 8) (by decide) (s4 st)
  unfold cN
  omega
theorem sm_byte {st : St} (h : Sm st) : Sm (byteS st).2 := tells_sm _ _ (rdWord_le 1) h
theorem sm_num {st : St} (h : Sm st) : Sm (numS st).2 := tells_sm _ _ (rdWord_le 8) h
theorem sm_count {most : Int} {st : St} (h : Sm st) : Sm (countS most st).2 := tells_sm _ _ (rdCount_le most) h
theorem sm_bytes {most : Int} {st : St} (h : Sm st) : Sm (bytesS most st).2 := tells_sm _ _ (rdBytes_le most) h
theorem sm_nS {st : St} (h : Sm st) (k : Nat) : Sm (nS st k).2 := by
  induction k with
  | zero => exact h
  | succ k ih => exact sm_num (sm_num ih)
theorem sm_s7 {st : St} (h : Sm st) : Sm (s7 st) := sm_byte (sm_nS (sm_count (sm_num (sm_num (sm_bytes (sm_byte h))))) _)
theorem byte_inv {st : St} {r : List Nat} (h : (byteS st).2 = some r) : st = some ((byteS st).1 :: r) := by
  cases st with
  | none => cases h
  | some l =>
    cases l with
    | nil => simp [byteS, tells, rdWord] at h
    | cons x l =>
      simp [byteS, tells, rdWord] at h
      subst h
      simp [byteS, tells, rdWord, wN]
theorem num_inv {st : St} {r : List Nat} (h : (numS st).2 = some r) (ho : OkS st) : st = some (encN (toI (numS st).1) ++ r) := by
  cases st with
  | none => cases h
  | some l =>
    unfold numS tells rdWord at h ⊢
    by_cases h8 : 8 ≤ l.length
    · simp only [if_pos h8, Option.some.injEq] at h ⊢
      subst h
      have hb : ∀ b ∈ l.take 8, b < 256 := fun b hb => ho l rfl b (List.mem_of_mem_take hb)
      have hl : (l.take 8).length = 8 := by rw [List.length_take]; omega
      have hlt := wN_lt (l.take 8) hb
      rw [hl] at hlt
      unfold encN
      rw [ofI_toI (by simpa using hlt), encW_wN hl hb, List.take_append_drop]
    · simp only [if_neg h8] at h; cases h
theorem count_inv {most : Int} {st : St} {r : List Nat} (h : (countS most st).2 = some r) (ho : OkS st) : st = some (encN (countS most st).1 ++ r) ∧ 0 ≤ (countS most st).1 ∧ (countS most st).1 ≤ most := by
  cases st with
  | none => cases h
  | some l =>
    unfold countS tells rdCount at h ⊢
    by_cases h8 : 8 ≤ l.length ∧ 0 ≤ toI (wN (l.take 8)) ∧ toI (wN (l.take 8)) ≤ most
    · simp only [if_pos h8, Option.some.injEq] at h ⊢
      subst h
      refine ⟨?_, h8.2⟩
      have h9 := num_inv (st := some l) (r := l.drop 8) (by unfold numS tells rdWord; simp only [if_pos h8.1]) ho
      unfold numS tells rdWord at h9
      simp only [if_pos h8.1, Option.some.injEq] at h9
      exact h9
    · simp only [if_neg h8] at h; cases h
theorem bytes_inv {most : Int} {st : St} {r : List Nat} (h : (bytesS most st).2 = some r) (ho : OkS st) : st = some (rowL (bytesS most st).1 ++ r) ∧ ((bytesS most st).1.length : Int) ≤ most := by
  cases st with
  | none => cases h
  | some l =>
    unfold bytesS tells rdBytes at h ⊢
    cases hc : rdCount most l with
    | none => simp only [hc] at h; cases h
    | some p =>
      obtain ⟨n, q⟩ := p
      have e : countS most (some l) = (n, some q) := by unfold countS tells; simp only [hc]
      obtain ⟨h1, h2, h3⟩ := count_inv (most := most) (st := some l) (r := q) (by rw [e]) ho
      rw [e] at h1 h2 h3
      simp only at h1 h2 h3
      simp only [hc] at h ⊢
      by_cases hk : n.toNat ≤ q.length
      · simp only [if_pos hk, Option.some.injEq] at h ⊢
        subst h
        have hl : (q.take n.toNat).length = n.toNat := by rw [List.length_take]; omega
        refine ⟨?_, by rw [hl]; omega⟩
        unfold rowL
        rw [hl, Int.toNat_of_nonneg h2, List.append_assoc, List.take_append_drop]
        exact Option.some.inj h1
      · simp only [if_neg hk] at h; cases h
theorem okS_byte {st : St} (h : OkS st) : OkS (byteS st).2 := fun _ hl => by
  have e := byte_inv hl
  exact fun b hb => h _ e b (List.mem_cons_of_mem _ hb)
theorem okS_num {st : St} (h : OkS st) : OkS (numS st).2 := fun _ hl b hb => h _ (num_inv hl h) b (List.mem_append_right _ hb)
theorem okS_count {most : Int} {st : St} (h : OkS st) : OkS (countS most st).2 := fun _ hl b hb => h _ (count_inv hl h).1 b (List.mem_append_right _ hb)
theorem okS_bytes {most : Int} {st : St} (h : OkS st) : OkS (bytesS most st).2 := fun _ hl b hb => h _ (bytes_inv hl h).1 b (List.mem_append_right _ hb)
theorem okS_nS {st : St} (h : OkS st) (k : Nat) : OkS (nS st k).2 := by
  induction k with
  | zero => exact h
  | succ k ih => exact okS_num (okS_num ih)
theorem okS_sS {st : St} (h : OkS st) (k : Nat) : OkS (sS st k).2 := by
  induction k with
  | zero => exact h
  | succ k ih => exact okS_byte ih
theorem nS_inv {st : St} (ho : OkS st) : ∀ {k : Nat} {r : List Nat}, (nS st k).2 = some r → st = some (dotsL (nS st k).1 ++ r) := by
  intro k
  induction k with
  | zero => intro r h; simpa [nS, dotsL] using h
  | succ k ih =>
    intro r h
    have h2 := num_inv h (okS_num (okS_nS ho k))
    have h1 := num_inv h2 (okS_nS ho k)
    refine (ih h1).trans ?_
    simp [nS, dotsL, dotL]
theorem sS_inv {st : St} : ∀ {k : Nat} {r : List Nat}, (sS st k).2 = some r → st = some ((sS st k).1 ++ r) := by
  intro k
  induction k with
  | zero => intro r h; simpa [sS] using h
  | succ k ih =>
    intro r h
    have h1 := byte_inv h
    refine (ih h1).trans ?_
    simp [sS]
theorem byte_lt {st : St} (h : OkS st) : (byteS st).1 < 256 := by
  cases st with
  | none => decide
  | some l =>
    cases l with
    | nil => decide
    | cons x l =>
      have := h _ rfl x (by simp)
      simpa [byteS, tells, rdWord, wN] using this
theorem sS_lt {st : St} (h : OkS st) (k : Nat) : ∀ b ∈ (sS st k).1, b < 256 := by
  induction k with
  | zero => intro b hb; cases hb
  | succ k ih =>
    intro b hb
    rw [sS_succ] at hb
    rcases List.mem_append.1 hb with hb | hb
    · exact ih b hb
    · rw [List.mem_singleton.1 hb]; exact byte_lt (okS_sS h k)
theorem okS_s8 {st : St} (h : OkS st) : OkS (s8 st) := okS_bytes (okS_byte (okS_nS (okS_count (okS_num (okS_num (okS_bytes (okS_byte h))))) _))
theorem getD_lt {l : List Nat} (h : ∀ b ∈ l, b < 256) (i : Nat) : l.getD i 0 < 256 := by
  rw [List.getD_eq_getElem?_getD]
  cases hi : l[i]? with
  | none => decide
  | some x => exact h x (List.mem_of_getElem? hi)
theorem goneN_of {n : Nat} (h : n ≤ 1) : goneN (decide (n = 1)) = n := by
  rcases (by omega : n = 0 ∨ n = 1) with rfl | rfl <;> rfl
/-- where it came to the end, the bytes are those of what was read -/
theorem read_inv {b : List Nat} (ho : ∀ x ∈ b, x < 256) (h : s9 (some b) = some []) (hk : kindR (some b) = 1) (hg : goneR (some b) ≤ 1) : putL (recR (some b)) = b := by
  have o0 : OkS (some b) := fun l hl => by cases hl; exact ho
  have o1 : OkS (s1 (some b)) := okS_byte o0
  have o2 : OkS (s2 (some b)) := okS_bytes o1
  have o3 : OkS (s3 (some b)) := okS_num o2
  have o4 : OkS (s4 (some b)) := okS_num o3
  have o5 : OkS (s5 (some b)) := okS_count o4
  have o6 : OkS (s6 (some b)) := okS_nS o5 _
  have o7 : OkS (s7 (some b)) := okS_byte o6
  have o8 : OkS (s8 (some b)) := okS_bytes o7
  have e8 := sS_inv h
  have e7 := (bytes_inv e8 o7).1
  have e6 := byte_inv e7
  have e5 := nS_inv o5 e6
  obtain ⟨e4, hn0, _⟩ := count_inv e5 o4
  have e3 := num_inv e4 o3
  have e2 := num_inv e3 o2
  have e1 := (bytes_inv e2 o1).1
  have e0 := byte_inv e1
  have hgn := goneN_of hg
  have hc : (((nS (s5 (some b)) (cN (some b))).1.length : Nat) : Int) = (countS 8 (s4 (some b))).1 := by
    rw [nS_len]
    exact Int.toNat_of_nonneg hn0
  have hgo : (recR (some b)).gone = decide (goneR (some b) = 1) := rfl
  have e0' := Option.some.inj e0
  conv => rhs; rw [e0']
  unfold putL textL
  rw [hgo, hgn]
  show _ = kindR (some b) :: _
  rw [hk]
  unfold dotL
  simp only [List.append_assoc, List.cons_append, List.append_nil]
  rw [show (((recR (some b)).cx.length : Nat) : Int) = (countS 8 (s4 (some b))).1 from hc]
  rfl

theorem byte_put (x : Nat) (tl : List Nat) : byteS (some (x :: tl)) = (x, some tl) := by
  simp [byteS, tells, rdWord, wN]
theorem num_put2 (n : Int) (tl : List Nat) (h1 : -9223372036854775808 ≤ n) (h2 : n ≤ 9223372036854775807) : toI (numS (some (encN n ++ tl))).1 = n ∧ (numS (some (encN n ++ tl))).2 = some tl := num_put n tl h1 h2
theorem rdCount_put (most n : Int) (tl : List Nat) (h1 : 0 ≤ n) (h2 : n ≤ most) (h3 : n ≤ 9223372036854775807) : rdCount most (encN n ++ tl) = some (n, tl) := by
  have e1 : wN ((encN n ++ tl).take 8) = ofI n := by rw [take_app _ _ 8 (encN_length _)]; exact wN_encW (ofI_lt _)
  have e2 : toI (ofI n) = n := toI_ofI (by omega) h3
  unfold rdCount
  rw [e1, e2, drop_app _ _ 8 (encN_length _), if_pos ⟨by rw [List.length_append, encN_length]; omega, h1, h2⟩]
theorem count_put (most n : Int) (tl : List Nat) (h1 : 0 ≤ n) (h2 : n ≤ most) (h3 : n ≤ 9223372036854775807) : countS most (some (encN n ++ tl)) = (n, some tl) := by
  unfold countS tells
  simp only [rdCount_put most n tl h1 h2 h3]
theorem row_put (most : Int) (row tl : List Nat) (h : (row.length : Int) ≤ most) (h3 : row.length < 9223372036854775808) : bytesS most (some (rowL row ++ tl)) = (row, some tl) := by
  have e : rdBytes most (rowL row ++ tl) = some (row, tl) := by
    unfold rdBytes rowL
    rw [List.append_assoc, rdCount_put most row.length (row ++ tl) (by omega) h (by omega)]
    simp only [Int.toNat_natCast]
    rw [if_pos (by rw [List.length_append]; omega), take_app _ _ _ rfl, drop_app _ _ _ rfl]
  unfold bytesS tells
  simp only [e]
theorem nS_put (l : List D) (tl : List Nat) (h : ∀ d ∈ l, (-9223372036854775808 ≤ d.1 ∧ d.1 ≤ 9223372036854775807) ∧ -9223372036854775808 ≤ d.2 ∧ d.2 ≤ 9223372036854775807) : ∀ k, k ≤ l.length → nS (some (dotsL l ++ tl)) k = (l.take k, some (dotsL (l.drop k) ++ tl)) := by
  intro k
  induction k with
  | zero => intro _; simp [nS]
  | succ k ih =>
    intro hk
    have h0 := ih (by omega)
    have hd := drop_at l k (by omega)
    have hm := h (l.getD k z0) (by rw [List.getD_eq_getElem?_getD, List.getElem?_eq_getElem (by omega)]; exact List.getElem_mem _)
    have e : dotsL (l.drop k) ++ tl = encN (l.getD k z0).1 ++ (encN (l.getD k z0).2 ++ (dotsL (l.drop (k + 1)) ++ tl)) := by
      rw [hd]; simp [dotsL, dotL]
    obtain ⟨a1, a2⟩ := num_put (l.getD k z0).1 (encN (l.getD k z0).2 ++ (dotsL (l.drop (k + 1)) ++ tl)) hm.1.1 hm.1.2
    obtain ⟨b1, b2⟩ := num_put (l.getD k z0).2 (dotsL (l.drop (k + 1)) ++ tl) hm.2.1 hm.2.2
    rw [nS_succ, h0]
    dsimp only
    rw [e, a1, a2, b1, b2, List.take_succ_eq_append_getElem (by omega)]
    rw [show l.getD k z0 = l[k] by rw [List.getD_eq_getElem?_getD, List.getElem?_eq_getElem (by omega)]; rfl]
theorem sS_put (l tl : List Nat) : ∀ k, k ≤ l.length → sS (some (l ++ tl)) k = (l.take k, some (l.drop k ++ tl)) := by
  intro k
  induction k with
  | zero => intro _; simp [sS]
  | succ k ih =>
    intro hk
    have h0 := ih (by omega)
    have hd : l.drop k = l[k] :: l.drop (k + 1) := List.drop_eq_getElem_cons (by omega)
    rw [sS_succ, h0]
    dsimp only
    rw [hd, List.cons_append, byte_put, List.take_succ_eq_append_getElem (by omega)]
theorem okD_bd {d : D} (h : okD d = true) : (-9223372036854775808 ≤ d.1 ∧ d.1 ≤ 9223372036854775807) ∧ -9223372036854775808 ≤ d.2 ∧ d.2 ≤ 9223372036854775807 := by
  simp [okD] at h
  omega
theorem shape_of {r : R} (h : shapeB r = true) : 1 ≤ r.key.length ∧ r.key.length ≤ 64 ∧ okD r.dot = true ∧ Rt 0 r.cx ∧ r.val.length ≤ 1024 ∧ hasD r.cx r.dot = false := by
  simp only [shapeB, keyB, placedB, valB, Bool.and_eq_true, decide_eq_true_eq, Bool.not_eq_true'] at h
  obtain ⟨⟨⟨h1, h2⟩, ⟨h3, h4⟩, h5⟩, h6⟩ := h
  refine ⟨h1, h2, h3, (rtB_iff _ _).1 h4, ?_, h5⟩
  split at h6 <;> omega
/-- what is put is read as it was -/
theorem read_put {r : R} (h : shapeB r = true) (hs : r.sig.length = 64) (tl : List Nat) : kindR (some (putL r ++ tl)) = 1 ∧ goneR (some (putL r ++ tl)) = goneN r.gone ∧ recR (some (putL r ++ tl)) = r ∧ s9 (some (putL r ++ tl)) = some tl := by
  obtain ⟨k1, k2, k3, k4, k5, _⟩ := shape_of h
  have hcx : (r.cx.length : Int) ≤ 8 := by have := k4.len (by decide); omega
  have hb := okD_bd k3
  obtain ⟨T8, g8⟩ : ∃ T, T = r.sig ++ tl := ⟨_, rfl⟩
  obtain ⟨T7, g7⟩ : ∃ T, T = rowL r.val ++ T8 := ⟨_, rfl⟩
  obtain ⟨T6, g6⟩ : ∃ T, T = goneN r.gone :: T7 := ⟨_, rfl⟩
  obtain ⟨T5, g5⟩ : ∃ T, T = dotsL r.cx ++ T6 := ⟨_, rfl⟩
  obtain ⟨T4, g4⟩ : ∃ T, T = encN (r.cx.length : Int) ++ T5 := ⟨_, rfl⟩
  obtain ⟨T3, g3⟩ : ∃ T, T = encN r.sq ++ T4 := ⟨_, rfl⟩
  obtain ⟨T2, g2⟩ : ∃ T, T = encN r.cl ++ T3 := ⟨_, rfl⟩
  obtain ⟨T1, g1⟩ : ∃ T, T = rowL r.key ++ T2 := ⟨_, rfl⟩
  have e0 : putL r ++ tl = 1 :: T1 := by
    rw [g1, g2, g3, g4, g5, g6, g7, g8]
    simp [putL, textL, dotL, R.dot]
  rw [e0]
  have t0 := byte_put 1 T1
  have t1 := row_put 64 r.key T2 (by omega) (by omega)
  rw [← g1] at t1
  have t2 := num_put r.cl T3 hb.1.1 hb.1.2
  rw [← g2] at t2
  have t3 := num_put r.sq T4 hb.2.1 hb.2.2
  rw [← g3] at t3
  have t4 := count_put 8 r.cx.length T5 (by omega) hcx (by omega)
  rw [← g4] at t4
  have t5 := nS_put r.cx T6 (fun d hd => by have := k4.mem d hd; omega) _ (Nat.le_refl _)
  rw [← g5, List.take_length, List.drop_length, show dotsL [] ++ T6 = T6 from rfl] at t5
  have t6 := byte_put (goneN r.gone) T7
  rw [← g6] at t6
  have t7 := row_put 1024 r.val T8 (by omega) (by omega)
  rw [← g7] at t7
  have t8 := sS_put r.sig tl r.sig.length (Nat.le_refl _)
  rw [← g8, List.take_length, List.drop_length, hs, List.nil_append] at t8
  have q1 : s1 (some (1 :: T1)) = some T1 := by unfold s1; rw [t0]
  have q2 : s2 (some (1 :: T1)) = some T2 := by unfold s2; rw [q1, t1]
  have q3 : s3 (some (1 :: T1)) = some T3 := by unfold s3; rw [q2]; exact t2.2
  have q4 : s4 (some (1 :: T1)) = some T4 := by unfold s4; rw [q3]; exact t3.2
  have q5 : s5 (some (1 :: T1)) = some T5 := by unfold s5; rw [q4, t4]
  have qn : cN (some (1 :: T1)) = r.cx.length := by unfold cN; rw [q4, t4]; rfl
  have q6 : s6 (some (1 :: T1)) = some T6 := by unfold s6; rw [q5, qn, t5]
  have q7 : s7 (some (1 :: T1)) = some T7 := by unfold s7; rw [q6, t6]
  have q8 : s8 (some (1 :: T1)) = some T8 := by unfold s8; rw [q7, t7]
  have hg : goneR (some (1 :: T1)) = goneN r.gone := by unfold goneR; rw [q6, t6]
  refine ⟨by unfold kindR; rw [t0], hg, ?_, by unfold s9; rw [q8, t8]⟩
  unfold recR
  rw [hg, q1, t1, q2, t2.1, q3, t3.1, q5, qn, t5, q7, t7, q8, t8]
  cases r with
  | mk key cl sq cx gone val sig => cases gone <;> rfl
/-- the document's words and the program's are one -/
theorem get_is {b : List Nat} (ho : ∀ x ∈ b, x < 256) : getB b = (decide (s9 (some b) = some []) && decide (kindR (some b) = 1) && decide (goneR (some b) ≤ 1) && rightB (recR (some b))) := by
  rw [Bool.eq_iff_iff]
  simp only [getB, Bool.and_eq_true, decide_eq_true_eq]
  constructor
  · rintro ⟨h1, h2⟩
    have h3 := h1
    simp only [rightB, Bool.and_eq_true, decide_eq_true_eq] at h3
    obtain ⟨a1, a2, a3, a4⟩ := read_put h3.1 h3.2 []
    rw [List.append_nil, h2] at a1 a2 a4
    exact ⟨⟨⟨a4, a1⟩, by rw [a2]; unfold goneN; split <;> omega⟩, h1⟩
  · rintro ⟨⟨⟨h1, h2⟩, h3⟩, h4⟩
    exact ⟨h4, read_inv ho h1 h2 h3⟩
/-- what is put is got -/
theorem get_put {r : R} (h : rightB r = true) : getB (putL r) = true ∧ recR (some (putL r)) = r := by
  have h3 := h
  simp only [rightB, Bool.and_eq_true, decide_eq_true_eq] at h3
  obtain ⟨_, _, a3, _⟩ := read_put h3.1 h3.2 []
  rw [List.append_nil] at a3
  refine ⟨?_, a3⟩
  simp only [getB, a3, h, Bool.true_and, decide_true]
def R.bare (r : R) (s : List Nat) : R := { r with sig := s }
/-- one text, one record -/
theorem text_inj {a b : R} (ha : shapeB a = true) (hb : shapeB b = true) : textL a = textL b ↔ a.bare [] = b.bare [] := by
  constructor
  · intro h
    have z : (List.replicate 64 0).length = 64 := rfl
    have h1 := (read_put (r := a.bare (List.replicate 64 0)) ha z []).2.2.1
    have h2 := (read_put (r := b.bare (List.replicate 64 0)) hb z []).2.2.1
    have e : putL (a.bare (List.replicate 64 0)) = putL (b.bare (List.replicate 64 0)) := congrArg (· ++ List.replicate 64 0) h
    rw [e, h2] at h1
    have h3 : (a.bare (List.replicate 64 0)).bare [] = (b.bare (List.replicate 64 0)).bare [] := by rw [h1]
    exact h3
  · intro h
    have h3 : textL (a.bare []) = textL (b.bare []) := by rw [h]
    exact h3
theorem text_pos (r : R) : 0 < (textL r).length := by simp [textL]
/-- none is over itself -/
theorem over_self (a : R) : overB a a = false := by
  simp only [overB]
  cases h : shapeB a with
  | false => rfl
  | true => rw [(shape_of h).2.2.2.2.2]; simp
end Rc
end Go.Proofs.YtohcoihdijemfaaGreat

/- Strings as bytes, and bytes as strings. -/
namespace Go.Proofs.YtohcoihdijemfaaGreat
open Go.RowKit Ow

/-- a string's bytes -/
def strL (s : ByteArray) : List Nat := s.data.toList.map UInt8.toNat
theorem strL_len (s : ByteArray) : (strL s).length = s.size := by unfold strL; rw [List.length_map]; rfl
theorem strL_byte (s : ByteArray) (i : Nat) : (strL s).getD i 0 < 256 := by
  unfold strL
  rw [List.getD_eq_getElem?_getD, List.getElem?_map]
  cases s.data.toList[i]? with
  | none => decide
  | some b => exact b.toNat_lt
theorem strL_inj {s t : ByteArray} (h : strL s = strL t) : s = t := by
  unfold strL at h
  have h2 : s.data.toList = t.data.toList := List.map_inj_right (fun a b h => UInt8.toNat_inj.1 h) |>.1 h
  cases s; cases t
  simpa using h2
/-- two strings are one, just if their bytes are -/
theorem str_eq (s t : ByteArray) : (s.toList == t.toList) = decide (strL s = strL t) := by
  rw [ByteArray.toList_eq, ByteArray.toList_eq, Bool.eq_iff_iff]
  simp only [beq_iff_eq, decide_eq_true_eq]
  constructor
  · intro h; unfold strL; rw [h]
  · intro h; rw [strL_inj h]
def ofL (l : List Nat) : ByteArray := ⟨(l.map UInt8.ofNat).toArray⟩
theorem strL_ofL {l : List Nat} (h : ∀ i, l.getD i 0 < 256) : strL (ofL l) = l := by
  unfold strL ofL
  simp only [List.map_map]
  conv => rhs; rw [← List.map_id l]
  apply List.map_congr_left
  intro x hx
  obtain ⟨i, hi, rfl⟩ := List.getElem_of_mem hx
  have := h i
  rw [List.getD_eq_getElem?_getD, List.getElem?_eq_getElem hi] at this
  simp only [Option.getD_some] at this
  simp [UInt8.toNat_ofNat']
  omega
theorem gb_bytesWorld (w : World) (e : TypeId) (s : ByteArray) : w.grownBy (Lib.bytesWorld w e s) none := by
  refine ⟨rfl, rfl, rfl, by rw [Lib.bytesWorld_size]; omega, fun k hk _ => Lib.bytesWorld_at_old w e s k hk⟩
theorem cap_top (w : World) (n : Nat) (e : TypeId) (h : n < 9223372036854775808) : n ≤ grownCap w n 0 e ∧ grownCap w n 0 e < 9223372036854775808 := by
  have : ∀ t : Nat, n ≤ (Question.appendCap n 0 e).cut t ∧ (Question.appendCap n 0 e).cut t < 9223372036854775808 := fun t => by
    show n ≤ n + t % (2 ^ 63 - n) ∧ n + t % (2 ^ 63 - n) < 9223372036854775808
    have := Nat.mod_lt t (show 0 < 2 ^ 63 - n by omega)
    omega
  exact this _
/-- []byte(s) -/
theorem str_bytes (s : ByteArray) (w : World) (hs : s.size < 9223372036854775808) :
    ∃ c w', (convert 9 23 (.string s)).run Tryz.prog w = .ok (.slice (some ⟨w.heap.size, 0, none⟩) s.size c) w' ∧ w.grownBy w' none ∧ BytesAt w' w'.heap.size (some ⟨w.heap.size, 0, none⟩) c (strL s) := by
  have h := Lib.run_convert_string_bytes (P := Tryz.prog) w 9 23 5 s Tryz.underlying9 Tryz.underlying23 Tryz.underlying5
  refine ⟨_, _, h, gb_bytesWorld w _ s, Nat.le_refl _, by rw [strL_len]; exact (cap_top w s.size _ hs).1, (cap_top w s.size _ hs).2, strL_byte s, Or.inr ⟨w.heap.size, 0, rfl, by rw [Lib.bytesWorld_size]; omega, fun i hi => ?_⟩⟩
  rw [strL_len] at hi
  rw [Nat.zero_add, Lib.bytesWorld_cell w 5 s i hi]
  unfold u8N strL
  have hi2 : i < s.data.toList.length := hi
  simp only [List.getD_eq_getElem?_getD, List.getElem?_map, List.getElem?_eq_getElem hi2, Option.map_some, Option.getD_some]
theorem push_all (l : List Nat) : ∀ s : ByteArray, (l.map Int.ofNat).foldl (fun r n => r.push (UInt8.ofNat n.toNat)) s = ⟨s.data ++ (l.map UInt8.ofNat).toArray⟩ := by
  induction l with
  | nil => intro s; cases s; simp
  | cons x r ih =>
    intro s
    simp only [List.map_cons, List.foldl_cons]
    rw [ih]
    cases s
    simp [ByteArray.push]
/-- string(b) -/
theorem bytes_str {w : World} {B n cap : Nat} {a : Option Addr} {l : List Nat} (hn : l.length = n) (h : BytesAt w B a cap l) :
    (convert 23 9 (.slice a n cap)).run Tryz.prog w = .ok (.string (ofL l)) w := by
  subst hn
  rw [run_convert_bytes_string w 23 9 5 a l.length cap Tryz.underlying23 Tryz.underlying5 Tryz.underlying9]
  rcases h.cells with h0 | ⟨pb, po, rfl, hlt, hc⟩
  · obtain rfl : l = [] := List.eq_nil_of_length_eq_zero h0
    cases a with
    | none => rfl
    | some a =>
      exact run_bytesToString w a 0 cap [] (run_loadCells_list (P := Tryz.prog) (w := w) a [] (fun j v hv => by simp at hv))
  · rw [run_bytesToString w ⟨pb, po, none⟩ l.length cap (l.map Int.ofNat) ?_, push_all]
    · show Result.ok (Value.string ⟨#[] ++ (l.map UInt8.ofNat).toArray⟩) w = _
      rw [Array.empty_append]
      rfl
    · have hl := run_loadCells_list (P := Tryz.prog) (w := w) ⟨pb, po, none⟩ (l.map u8N) (fun j u hu => by
        have hj : j < l.length := by
          rcases Nat.lt_or_ge j l.length with h | h
          · exact h
          · rw [List.getElem?_eq_none (by simpa using h)] at hu; cases hu
        rw [Addr.add_lit, hc j hj, ← hu, u8_getD hj])
      rw [List.length_map] at hl
      rw [hl, List.map_map]
      rfl
end Go.Proofs.YtohcoihdijemfaaGreat

/- sort.Search at this dump: the shelf's contract, laid by hand. -/
namespace Go.Proofs.YtohcoihdijemfaaGreat
open Go.Shelf
def laysSearch_ren : Go.Shelf.Ren := ⟨fun | 16 => 154 | n => n, fun | 3 => 3 | 4 => 4 | 35 => 134 | 38 => 61 | n => n, fun | n => n⟩
theorem laysSearch : Go.Proofs.SlLaysO.n16 Tryz.prog laysSearch_ren := {
  mixed := by kernel_rfl
  f16 := Tryz.func154.trans (congrArg some (by kernel_rfl))
  t3 := Tryz.underlying3
  a3 := Tryz.isAgg3
  z3 := Tryz.sizeOf3
  v3 := Tryz.zeroValue3
  t4 := Tryz.underlying4
  a4 := Tryz.isAgg4
  z4 := Tryz.sizeOf4
  v4 := Tryz.zeroValue4
  t35 := Tryz.underlying134
  a35 := Tryz.isAgg134
  z35 := Tryz.sizeOf134
  v35 := Tryz.zeroValue134
  t38 := Tryz.underlying61
  a38 := Tryz.isAgg61
  z38 := Tryz.sizeOf61
  v38 := Tryz.zeroValue61 }
end Go.Proofs.YtohcoihdijemfaaGreat

/- Rows of dots: what lies below a bound and stays. -/
namespace Go.Proofs.YtohcoihdijemfaaGreat
open Go.RowKit
namespace Ve
abbrev iV (n : Int) : Value := .int .i64 n
/-- a slice of the dots l, that lie below block B -/
structure DotsAt (w : World) (B : Nat) (a : Option Addr) (l : List D) : Prop where
  lim : B ≤ w.heap.size
  cells : l.length = 0 ∨ ∃ pb po, a = some ⟨pb, po, none⟩ ∧ pb < B ∧ ∀ i, i < l.length → w.cell? ⟨pb, po + i * 2, none⟩ = some (iV (l.getD i z0).1) ∧ w.cell? ⟨pb, po + i * 2 + 1, none⟩ = some (iV (l.getD i z0).2)
theorem DotsAt.kept {w w' : World} {B : Nat} {a : Option Addr} {l : List D} (h : DotsAt w B a l) {row : Option Nat} (hg : w.grownBy w' row) (hr : ∀ r, row = some r → B ≤ r) : DotsAt w' B a l := by
  refine ⟨Nat.le_trans h.lim hg.size, ?_⟩
  rcases h.cells with h0 | ⟨pb, po, ha, hlt, hc⟩
  · exact Or.inl h0
  · have e : ∀ o, w'.cell? ⟨pb, o, none⟩ = w.cell? ⟨pb, o, none⟩ := fun o => gb_cell hg (p := ⟨pb, o, none⟩) (Nat.lt_of_lt_of_le hlt h.lim) (fun e => by have := hr _ e.symm; simp at this; omega)
    exact Or.inr ⟨pb, po, ha, hlt, fun i hi => by rw [e, e]; exact hc i hi⟩
theorem DotsAt.stay {w w' : World} {B : Nat} {a : Option Addr} {l : List D} (h : DotsAt w B a l) (hg : w.grownBy w' none) : DotsAt w' B a l := h.kept hg (fun r e => by cases e)
theorem DotsAt.up' {w : World} {B B' : Nat} {a : Option Addr} {l : List D} (h : DotsAt w B a l) (hB : B ≤ B') (hl : B' ≤ w.heap.size) : DotsAt w B' a l := by
  refine ⟨hl, ?_⟩
  rcases h.cells with h0 | ⟨pb, po, ha, hlt, hc⟩
  · exact Or.inl h0
  · exact Or.inr ⟨pb, po, ha, by omega, hc⟩
end Ve
end Go.Proofs.YtohcoihdijemfaaGreat

/- Where a client stands, or would have to; how many writes are seen of it. -/
namespace Go.Proofs.YtohcoihdijemfaaGreat
open Go.RowKit Go.Shelf Go.Sort Ve
namespace Ve
set_option maxHeartbeats 400000 in
theorem closure_any (n cap ba bx pb po i : Nat) (c x : Int) (w : World) (hi : i < n) (ha : w.cell? ⟨ba, 0, none⟩ = some (.slice (some ⟨pb, po, none⟩) n cap)) (hx : w.cell? ⟨bx, 0, none⟩ = some (iV c)) (hc : w.cell? ⟨pb, po + i * 2, none⟩ = some (iV x)) :
    Calls Tryz.prog 155 (#[.int .i64 i] ++ #[.pointer (some ⟨ba, 0, none⟩), .pointer (some ⟨bx, 0, none⟩)]) w fun e w' => e = .returned (.bool (decide (c ≤ x))) ∧ ∃ q, w' = w.drewN q := by
  have hiz : (i : Int) < (n : Int) := by omega
  go_enter Tryz.func155, Tryz.ntmps155
  go_wp2
  go_quiet (fail)
  go_wp2
  go_ret
  exact ⟨rfl, _, rfl⟩
theorem gb_grow (w : World) (q : Nat) (os : Array Obj) : w.grownBy (grow (w.drewN q) os) none :=
  ⟨rfl, rfl, rfl, by simp [grow], fun k hk _ => by
    show ((w.drewN q).heap ++ os)[k]? = _
    rw [Array.getElem?_append_left (by show k < w.heap.size; omega)]
    rfl⟩
set_option maxHeartbeats 400000 in
theorem place_any (B n cap : Nat) (a : Option Addr) (l : List D) (c : Int) (w : World) (hn : l.length = n) (h : DotsAt w B a l) (hr : Rt 0 l) :
    Calls Tryz.prog 153 #[.slice a n cap, .int .i64 c] w fun e w' => e = .returned (.int .i64 (pl l c : Nat)) ∧ w.grownBy w' none := by
  have hl8 := hr.len (by decide)
  obtain ⟨W0, hW0⟩ : ∃ W0, W0 = (w.alloc (.cells #[.slice a n cap] 225)).alloc (.cells #[.int .i64 c] 3) := ⟨_, rfl⟩
  have hg0 : w.grownBy W0 none := by rw [hW0]; exact gb_alloc (gb_alloc (gb_refl _ _) _) _
  have ca : W0.cell? ⟨w.heap.size, 0, none⟩ = some (.slice a n cap) := by rw [hW0]; exact cell_alloc_sl _ (cell_new_sl w _ _)
  have cx : W0.cell? ⟨w.heap.size + 1, 0, none⟩ = some (.int .i64 c) := by rw [hW0]; have := cell_new_sl (w.alloc (.cells #[.slice a n cap] 225)) (.int .i64 c) 3; rwa [World.size_alloc] at this
  have hS := Any.sort_Search laysSearch 155 #[.pointer (some ⟨w.heap.size, 0, none⟩), .pointer (some ⟨w.heap.size + 1, 0, none⟩)] n (fun i => decide (c ≤ (l.getD i z0).1)) W0
    (enters_of Tryz.func155 (by kernel_rfl) rfl) (by omega)
    (fun m os i hi => by
      have hg := gb_trans hg0 (gb_grow W0 m os)
      obtain ⟨pb, po, rfl, _, hcs⟩ := (h.stay hg).cells.resolve_left (by omega)
      have k1 := (hcs i (by omega)).1
      refine (closure_any n cap w.heap.size (w.heap.size + 1) pb po i c _ _ hi (by rw [gb_cell (gb_grow W0 m os) (Blk.lt (w := W0) (T := 225) (L := [.slice (some ⟨pb, po, none⟩) n cap]) (by rw [hW0]; exact (Blk.new _ _ _).alloc _)) (by simp)]; exact ca)
        (by rw [gb_cell (gb_grow W0 m os) (by rw [hW0]; simp) (by simp)]; exact cx) k1).mono ?_
      rintro e w' ⟨rfl, q, rfl⟩
      exact ⟨rfl, q, #[], by rw [grow_empty]⟩)
    (fun x y hxy hy hx => by
      rcases Nat.eq_or_lt_of_le hxy with rfl | hlt
      · exact hx
      · have := hr.at_lt x y hlt (by omega)
        simp only [decide_eq_true_eq] at hx ⊢
        omega)
  have hp : (List.range n).countP (fun i => !decide (c ≤ (l.getD i z0).1)) = pl l c := by rw [← hn]; rfl
  rw [hp] at hS
  change Calls Tryz.prog 154 _ _ _ at hS
  have HG := Lib.hid hg0
  clear ca cx hp h hr hn hg0
  generalize pl l c = r at hS ⊢
  go_enter Tryz.func153, Tryz.ntmps153
  go_wp2_with (go_at_call 154; rw [← hW0]; refine hS.mono ?_; rintro e w' ⟨rfl, q, os, rfl⟩)
  go_ret
  exact ⟨rfl, by rw [← hW0]; exact gb_trans HG.out (gb_grow W0 q os)⟩
set_option maxHeartbeats 400000 in
theorem seen_any (B n cap : Nat) (a : Option Addr) (l : List D) (c : Int) (w : World) (hn : l.length = n) (h : DotsAt w B a l) (hr : Rt 0 l) :
    Calls Tryz.prog 152 #[.slice a n cap, .int .i64 c] w fun e w' => e = .returned (.int .i64 (up l c)) ∧ w.grownBy w' none := by
  obtain ⟨p1, p2, p3⟩ := pl_is hr c
  have hu := up_pl (pl l c) hr p2 (fun hk => p3 _ (Nat.le_refl _) hk)
  have hP := place_any B n cap a l c w hn h hr
  generalize pl l c = k at p1 p2 p3 hu hP
  have H := Lib.hid h; clear h
  have HN := Lib.hid hn
  rw [hn] at p1
  clear p2 p3
  by_cases hk : k = n
  · subst hk
    rw [if_neg (by omega)] at hu
    have HU := Lib.hid hu; clear hu hn
    go_enter Tryz.func152, Tryz.ntmps152
    go_wp2_with fail
    refine hP.mono ?_
    rintro e w' ⟨rfl, hg⟩
    have HG := Lib.hid hg; clear hg hP
    go_wp2
    go_ret
    exact ⟨by rw [HU.out]; rfl, HG.out⟩
  · have hlt : k < n := by omega
    have hk2 : (k : Int) < (n : Int) := by omega
    have hk3 : ¬ (k : Int) = (n : Int) := by omega
    obtain ⟨x, y, hxy⟩ : ∃ x y, l.getD k z0 = (x, y) := ⟨_, _, rfl⟩
    rw [hn, hxy] at hu
    simp only at hu
    have HX := Lib.hid hxy; clear hxy hn
    by_cases hx : x = c
    · subst hx
      rw [if_pos ⟨hlt, rfl⟩] at hu
      have HU := Lib.hid hu; clear hu
      go_enter Tryz.func152, Tryz.ntmps152
      go_wp2_with fail
      refine hP.mono ?_
      rintro e w' ⟨rfl, hg⟩
      obtain ⟨pb, po, rfl, _, hcs⟩ := (H.out.stay hg).cells.resolve_left (by rw [HN.out]; omega)
      obtain ⟨k1, k2⟩ := hcs k (by rw [HN.out]; exact hlt)
      rw [HX.out] at k1 k2
      simp only at k1 k2
      have HG := Lib.hid hg; clear hg hP hcs
      go_wp2
      go_ret
      exact ⟨by rw [HU.out]; rfl, HG.out⟩
    · rw [if_neg (fun h => hx h.2)] at hu
      have HU := Lib.hid hu; clear hu
      have hxb : (x != c) = true := by simpa using hx
      go_enter Tryz.func152, Tryz.ntmps152
      go_wp2_with fail
      refine hP.mono ?_
      rintro e w' ⟨rfl, hg⟩
      obtain ⟨pb, po, rfl, _, hcs⟩ := (H.out.stay hg).cells.resolve_left (by rw [HN.out]; omega)
      obtain ⟨k1, k2⟩ := hcs k (by rw [HN.out]; exact hlt)
      rw [HX.out] at k1 k2
      simp only at k1 k2
      have HG := Lib.hid hg; clear hg hP hcs
      go_wp2
      go_ret
      exact ⟨by rw [HU.out]; rfl, HG.out⟩
end Ve
end Go.Proofs.YtohcoihdijemfaaGreat

/- Whether a row is a vector. -/
namespace Go.Proofs.YtohcoihdijemfaaGreat
open Go.RowKit Ve
namespace Ve
set_option maxHeartbeats 400000 in
theorem right_any (B n c : Nat) (a : Option Addr) (l : List D) (w : World) (hn : l.length = n) (h : DotsAt w B a l) (hc : n < 9223372036854775808) :
    Calls Tryz.prog 151 #[.slice a n c] w fun e w' => e = .returned (.bool (rtB 0 l)) ∧ w.grownBy w' none := by
  have H := Lib.hid h; clear h
  have HN := Lib.hid hn; clear hn
  obtain ⟨R, HR⟩ : ∃ R, Hid (R = rtB 0 l) := ⟨_, rfl⟩
  rw [← HR.out]
  go_enter Tryz.func151, Tryz.ntmps151
  go_wp2
  go_loopw [3, 8] (fun last i wr => ∃ (k : Nat) (b : Int), k ≤ n ∧ 0 ≤ b ∧ i = .int .i64 k ∧ last = .int .i64 b ∧ Hid (w.grownBy wr none ∧ R = rtB b (l.drop k))) (fun _ i _ => n - (intOf i).toNat)
  case atStart => exact ⟨0, 0, by omega, by omega, rfl, rfl, gb_refl _ _, HR.out⟩
  case round =>
    obtain ⟨k, b, hk, hb, rfl, rfl, HI⟩ := hrel
    by_cases hlt : k < n
    · obtain ⟨pb, po, rfl, hpb, hcs⟩ := (H.out.stay HI.out.1).cells.resolve_left (by rw [HN.out]; omega)
      obtain ⟨k1, k2⟩ := hcs k (by rw [HN.out]; exact hlt)
      clear hcs
      have hd := drop_at l k (by rw [HN.out]; exact hlt)
      obtain ⟨x, y, hxy⟩ : ∃ x y, l.getD k z0 = (x, y) := ⟨_, _, rfl⟩
      rw [hxy] at k1 k2 hd
      simp only at k1 k2
      have HD := Lib.hid hd; clear hd hxy
      have hi : (k : Int) < (n : Int) := by omega
      have hfin : ∀ (b2 : Bool), (decide (b < x) && decide (x ≤ 8) && decide (1 ≤ y) && decide (y ≤ 1073741824)) = b2 → R = (b2 && rtB x (l.drop (k + 1))) := fun b2 hb2 => by rw [HI.out.2, HD.out, rtB, hb2]
      have HF := Lib.hid hfin; clear hfin
      by_cases h1 : x ≤ b
      · have hr : R = false := by rw [HF.out false (by simp; omega)]; rfl
        have HRF := Lib.hid hr; clear hr
        go_wp2
        go_ret
        exact ⟨by rw [HRF.out]; rfl, gb_alloc HI.out.1 _⟩
      by_cases h2 : 8 < x
      · have hr : R = false := by rw [HF.out false (by simp; omega)]; rfl
        have HRF := Lib.hid hr; clear hr
        go_wp2
        go_ret
        exact ⟨by rw [HRF.out]; rfl, gb_alloc HI.out.1 _⟩
      by_cases h3 : y < 1
      · have hr : R = false := by rw [HF.out false (by simp; omega)]; rfl
        have HRF := Lib.hid hr; clear hr
        go_wp2
        go_ret
        exact ⟨by rw [HRF.out]; rfl, gb_alloc HI.out.1 _⟩
      by_cases h4 : 1073741824 < y
      · have hr : R = false := by rw [HF.out false (by simp; omega)]; rfl
        have HRF := Lib.hid hr; clear hr
        go_wp2
        go_ret
        exact ⟨by rw [HRF.out]; rfl, gb_alloc HI.out.1 _⟩
      have hr : R = rtB x (l.drop (k + 1)) := by rw [HF.out true (by simp; omega)]; rfl
      have HRT := Lib.hid hr; clear hr
      go_wp2
      go_roundw
      case rel => exact ⟨k + 1, x, by omega, by omega, by go_num, rfl, gb_alloc HI.out.1 _, HRT.out⟩
      case measure => simp [intOf]; omega
    · obtain rfl : k = n := by omega
      have hr : R = true := by rw [HI.out.2, drop_end l k (by rw [HN.out]; omega)]; rfl
      have HRT := Lib.hid hr; clear hr
      go_wp2
      go_ret
      exact ⟨by rw [HRT.out]; rfl, HI.out.1⟩
theorem vright_any (B n c : Nat) (a : Option Addr) (l : List D) (w : World) (hn : l.length = n) (h : DotsAt w B a l) (hc : n < 9223372036854775808) :
    Calls Tryz.prog 141 #[.slice a n c] w fun e w' => e = .returned (.bool (rtB 0 l)) ∧ w.grownBy w' none := by
  have H := Lib.hid h; clear h
  have HN := Lib.hid hn; clear hn
  obtain ⟨R, HR⟩ : ∃ R, Hid (R = rtB 0 l) := ⟨_, rfl⟩
  rw [← HR.out]
  go_enter Tryz.func141, Tryz.ntmps141
  go_wp2_with fail
  refine (right_any B n c a l _ HN.out H.out hc).mono ?_
  rintro e w' ⟨rfl, hg⟩
  rw [← HR.out]
  have HG := Lib.hid hg; clear hg
  go_wp2
  go_ret
  exact ⟨rfl, HG.out⟩
end Ve
end Go.Proofs.YtohcoihdijemfaaGreat

/- Whether a vector has all of another one; a dot. -/
namespace Go.Proofs.YtohcoihdijemfaaGreat
open Go.RowKit Ve
namespace Ve
set_option maxHeartbeats 400000 in
theorem covers_any (B1 B2 n1 n2 c1 c2 : Nat) (a1 a2 : Option Addr) (l1 l2 : List D) (w : World) (hn1 : l1.length = n1) (hn2 : l2.length = n2) (h1 : DotsAt w B1 a1 l1) (h2 : DotsAt w B2 a2 l2) (hr : Rt 0 l1) (hc : n2 < 9223372036854775808) :
    Calls Tryz.prog 142 #[.slice a1 n1 c1, .slice a2 n2 c2] w fun e w' => e = .returned (.bool (covB l1 l2)) ∧ w.grownBy w' none := by
  have H1 := Lib.hid h1; clear h1
  have H2 := Lib.hid h2; clear h2
  have HN := Lib.hid (And.intro hn1 hn2); clear hn1 hn2
  obtain ⟨R, HR⟩ : ∃ R, Hid (R = covB l1 l2) := ⟨_, rfl⟩
  rw [← HR.out]
  go_enter Tryz.func142, Tryz.ntmps142
  go_wp2
  go_loopw [9] (fun i wr => ∃ (k : Nat), k ≤ n2 ∧ i = .int .i64 k ∧ Hid (w.grownBy wr none ∧ R = covB l1 (l2.drop k))) (fun i _ => n2 - (intOf i).toNat)
  case atStart => exact ⟨0, by omega, rfl, gb_refl _ _, HR.out⟩
  case round =>
    obtain ⟨k, hk, rfl, HI⟩ := hrel
    by_cases hlt : k < n2
    · obtain ⟨pb, po, rfl, hpb, hcs⟩ := (H2.out.stay HI.out.1).cells.resolve_left (by rw [HN.out.2]; omega)
      obtain ⟨k1, k2⟩ := hcs k (by rw [HN.out.2]; exact hlt)
      clear hcs
      have hd := drop_at l2 k (by rw [HN.out.2]; exact hlt)
      obtain ⟨x, y, hxy⟩ : ∃ x y, l2.getD k z0 = (x, y) := ⟨_, _, rfl⟩
      rw [hxy] at k1 k2 hd
      simp only at k1 k2
      have hfin : R = (decide (y ≤ up l1 x) && covB l1 (l2.drop (k + 1))) := by rw [HI.out.2, hd, covB]
      have HF := Lib.hid hfin; clear hfin hd hxy
      have hi : (k : Int) < (n2 : Int) := by omega
      have hS : ∀ w', w.grownBy w' none → Calls Tryz.prog 152 #[.slice a1 n1 c1, .int .i64 x] w' fun e w'' => e = .returned (.int .i64 (up l1 x)) ∧ w'.grownBy w'' none := fun w' hg => seen_any B1 n1 c1 a1 l1 x w' HN.out.1 (H1.out.stay hg) hr
      generalize up l1 x = u at hS HF
      have HS := Lib.hid hS; clear hS
      obtain ⟨W1, hW1⟩ : ∃ W1, W1 = (wr.alloc (.cells #[iV x, iV y] 99)) := ⟨_, rfl⟩
      have hg1 : w.grownBy W1 none := by rw [hW1]; exact gb_alloc HI.out.1 _
      have hB : Blk W1 wr.heap.size 99 [iV x, iV y] := by rw [hW1]; exact Blk.new wr _ _
      have HG1 := Lib.hid (And.intro hg1 hB); clear hg1 hB
      generalize hN : wr.heap.size = N at HG1
      by_cases hyu : u < y
      · have hr2 : R = false := by rw [HF.out, decide_eq_false (by omega)]; rfl
        have HRF := Lib.hid hr2; clear hr2
        have hyb : decide (u < y) = true := decide_eq_true hyu
        go_wp2_with fail
        rw [← hW1]
        have m1 := HG1.out.2.cell (i := 0) rfl
        have m2 := HG1.out.2.cell (i := 1) rfl
        clear hW1 k1 k2 hN
        go_region_with (go_at_call 152; refine (HS.out _ (gb_drew HG1.out.1)).mono ?_; rintro e w3 ⟨rfl, hg3⟩; have m3 : w3.cell? ⟨N, 1, none⟩ = some (iV y) := ((HG1.out.2.drew.grown hg3 (by simp)).cell (i := 1) rfl); have HG3 := Lib.hid (gb_trans (gb_drew HG1.out.1) hg3); clear hg3 m1 m2)
        all_goals
          go_wp2
          go_ret
          exact ⟨by rw [HRF.out]; rfl, HG3.out⟩
      · have hr2 : R = covB l1 (l2.drop (k + 1)) := by rw [HF.out, decide_eq_true (by omega)]; rfl
        have HRT := Lib.hid hr2; clear hr2
        have hyb : decide (u < y) = false := decide_eq_false hyu
        go_wp2_with fail
        rw [← hW1]
        have m1 := HG1.out.2.cell (i := 0) rfl
        have m2 := HG1.out.2.cell (i := 1) rfl
        clear hW1 k1 k2 hN
        go_region_with (go_at_call 152; refine (HS.out _ (gb_drew HG1.out.1)).mono ?_; rintro e w3 ⟨rfl, hg3⟩; have m3 : w3.cell? ⟨N, 1, none⟩ = some (iV y) := ((HG1.out.2.drew.grown hg3 (by simp)).cell (i := 1) rfl); have HG3 := Lib.hid (gb_trans (gb_drew HG1.out.1) hg3); clear hg3 m1 m2)
        all_goals
          go_wp2
          go_roundw
          case rel => exact ⟨k + 1, by omega, by go_num, HG3.out, HRT.out⟩
          case measure => simp [intOf]; omega
    · obtain rfl : k = n2 := by omega
      have hr : R = true := by rw [HI.out.2, drop_end l2 k (by rw [HN.out.2]; omega)]; rfl
      have HRT := Lib.hid hr; clear hr
      go_wp2
      go_ret
      exact ⟨by rw [HRT.out]; rfl, HI.out.1⟩
def cvB (a b : List D) : Bool := rtB 0 a && rtB 0 b && covB a b
def hasB (v : List D) (d : D) : Bool := rtB 0 v && okD d && decide (d.2 ≤ up v d.1)
theorem hasB_is (v : List D) (d : D) : hasB v d = cvB v [d] := by
  simp [hasB, cvB, rtB_one, covB]
set_option maxHeartbeats 400000 in
theorem vcovers_any (B1 B2 n1 n2 c1 c2 : Nat) (a1 a2 : Option Addr) (l1 l2 : List D) (w : World) (hn1 : l1.length = n1) (hn2 : l2.length = n2) (h1 : DotsAt w B1 a1 l1) (h2 : DotsAt w B2 a2 l2) (hc1 : n1 < 9223372036854775808) (hc2 : n2 < 9223372036854775808) :
    Calls Tryz.prog 106 #[.slice a1 n1 c1, .slice a2 n2 c2] w fun e w' => e = .returned (.bool (cvB l1 l2)) ∧ w.grownBy w' none := by
  have HA := Lib.hid (fun w' (hg : w.grownBy w' none) => vright_any B1 n1 c1 a1 l1 w' hn1 (h1.stay hg) hc1)
  have HB := Lib.hid (fun w' (hg : w.grownBy w' none) => vright_any B2 n2 c2 a2 l2 w' hn2 (h2.stay hg) hc2)
  have HC := Lib.hid (fun (hr : rtB 0 l1 = true) w' (hg : w.grownBy w' none) => covers_any B1 B2 n1 n2 c1 c2 a1 a2 l1 l2 w' hn1 hn2 (h1.stay hg) (h2.stay hg) ((rtB_iff _ _).1 hr) hc2)
  clear h1 h2 hn1 hn2
  obtain ⟨R, hR⟩ : ∃ R, R = cvB l1 l2 := ⟨_, rfl⟩
  rw [← hR]
  unfold cvB at hR
  generalize covB l1 l2 = z at hR HC
  generalize rtB 0 l2 = y at hR HB
  cases hx : rtB 0 l1 with
  | false =>
    rw [hx] at hR HA
    have HR := Lib.hid (show R = false from hR); clear hR
    clear HB HC hx
    go_enter Tryz.func106, Tryz.ntmps106
    go_wp2_with fail
    refine (HA.out _ (gb_refl _ _)).mono ?_
    rintro e w1 ⟨rfl, hg⟩
    have HG := Lib.hid hg; clear hg
    go_wp2
    go_ret
    exact ⟨by rw [HR.out]; rfl, HG.out⟩
  | true =>
    replace HC := Lib.hid (HC.out hx)
    rw [hx] at hR HA
    clear hx
    cases y with
    | false =>
      have HR := Lib.hid (show R = false from hR); clear hR
      clear HC
      go_enter Tryz.func106, Tryz.ntmps106
      go_wp2_with fail
      refine (HA.out _ (gb_refl _ _)).mono ?_
      rintro e w1 ⟨rfl, hg⟩
      have HG := Lib.hid hg; clear hg
      go_wp2_with fail
      refine (HB.out _ HG.out).mono ?_
      rintro e w2 ⟨rfl, hg⟩
      have HG2 := Lib.hid (gb_trans HG.out hg); clear hg
      go_wp2
      go_ret
      exact ⟨by rw [HR.out]; rfl, HG2.out⟩
    | true =>
      have HR := Lib.hid (show R = z from by simpa using hR); clear hR
      go_enter Tryz.func106, Tryz.ntmps106
      go_wp2_with fail
      refine (HA.out _ (gb_refl _ _)).mono ?_
      rintro e w1 ⟨rfl, hg⟩
      have HG := Lib.hid hg; clear hg
      go_wp2_with fail
      refine (HB.out _ HG.out).mono ?_
      rintro e w2 ⟨rfl, hg⟩
      have HG2 := Lib.hid (gb_trans HG.out hg); clear hg
      go_wp2_with fail
      refine (HC.out _ HG2.out).mono ?_
      rintro e w3 ⟨rfl, hg⟩
      have HG3 := Lib.hid (gb_trans HG2.out hg); clear hg
      go_wp2
      go_ret
      exact ⟨by rw [HR.out]; rfl, HG3.out⟩
theorem dots_one (w : World) (x y : Int) (T : TypeId) : DotsAt (w.alloc (.cells #[iV x, iV y] T)) (w.heap.size + 1) (some ⟨w.heap.size, 0, none⟩) [(x, y)] := by
  have hB : Blk (w.alloc (.cells #[iV x, iV y] T)) w.heap.size T [iV x, iV y] := Blk.new w _ _
  refine ⟨by simp, Or.inr ⟨w.heap.size, 0, rfl, by omega, fun i hi => ?_⟩⟩
  obtain rfl : i = 0 := by simp at hi; omega
  exact ⟨hB.cell (i := 0) rfl, hB.cell (i := 1) rfl⟩
set_option maxHeartbeats 400000 in
theorem has_any (B1 n1 c1 : Nat) (a1 : Option Addr) (l1 : List D) (x y : Int) (w : World) (hn1 : l1.length = n1) (h1 : DotsAt w B1 a1 l1) (hc1 : n1 < 9223372036854775808) :
    Calls Tryz.prog 62 #[.slice a1 n1 c1, .agg #[iV x, iV y]] w fun e w' => e = .returned (.bool (hasB l1 (x, y))) ∧ w.grownBy w' none := by
  have HC := Lib.hid (fun w' (hg : w.grownBy w' none) B2 a2 c2 (h2 : DotsAt w' B2 a2 [(x, y)]) => vcovers_any B1 B2 n1 1 c1 c2 a1 a2 l1 [(x, y)] w' hn1 rfl (h1.stay hg) h2 hc1 (by decide))
  rw [hasB_is]
  generalize cvB l1 [(x, y)] = R at HC
  clear h1 hn1
  have hD : DotsAt ((w.alloc (.cells #[iV x, iV y] 99)).alloc (.cells #[iV x, iV y] 99)) (w.heap.size + 1 + 1) (some ⟨w.heap.size + 1, 0, none⟩) [(x, y)] := by
    have h := dots_one (w.alloc (.cells #[iV x, iV y] 99)) x y 99
    rwa [World.size_alloc] at h
  have hc := HC.out _ (gb_alloc (gb_alloc (gb_refl _ _) _) _) _ _ 1 hD
  clear hD HC
  have HC := Lib.hid hc
  clear hc
  go_enter Tryz.func62, Tryz.ntmps62
  go_wp2_with fail
  refine HC.out.mono ?_
  rintro e w3 ⟨rfl, hg⟩
  have HG3 := Lib.hid hg; clear hg
  go_wp2
  go_ret
  exact ⟨rfl, gb_trans (gb_alloc (gb_alloc (gb_refl _ _) _) _) HG3.out⟩
end Ve
end Go.Proofs.YtohcoihdijemfaaGreat

/- Records in memory. -/
namespace Go.Proofs.YtohcoihdijemfaaGreat
open Go.RowKit Ow Wi Ve
namespace Rc
/-- where a record's parts lie -/
structure L where
  s : ByteArray
  a1 : Option Addr
  n1 : Nat
  c1 : Nat
  a2 : Option Addr
  n2 : Nat
  c2 : Nat
  a3 : Option Addr
  n3 : Nat
  c3 : Nat
def cellsV (s : ByteArray) (cl sq : Int) (a1 : Option Addr) (n1 c1 : Nat) (g : Bool) (a2 : Option Addr) (n2 c2 : Nat) (a3 : Option Addr) (n3 c3 : Nat) : List Value :=
  [.string s, iV cl, iV sq, .slice a1 n1 c1, .bool g, .slice a2 n2 c2, .slice a3 n3 c3]
def L.cells (q : L) (r : R) : List Value := cellsV q.s r.cl r.sq q.a1 q.n1 q.c1 r.gone q.a2 q.n2 q.c2 q.a3 q.n3 q.c3
def L.v (q : L) (r : R) : Value := .agg (q.cells r).toArray
/-- no record's cells -/
def z7 : List Value := cellsV ⟨#[]⟩ 0 0 none 0 0 false none 0 0 none 0 0
structure RAt (w : World) (B : Nat) (q : L) (r : R) : Prop where
  str : strL q.s = r.key
  l1 : r.cx.length = q.n1
  l2 : r.val.length = q.n2
  l3 : r.sig.length = q.n3
  dots : DotsAt w B q.a1 r.cx
  val : BytesAt w B q.a2 q.c2 r.val
  sig : BytesAt w B q.a3 q.c3 r.sig
  top : q.n1 < 9223372036854775808
theorem RAt.stay {w w' : World} {B : Nat} {q : L} {r : R} (h : RAt w B q r) (hg : w.grownBy w' none) : RAt w' B q r :=
  ⟨h.str, h.l1, h.l2, h.l3, h.dots.stay hg, h.val.stay hg, h.sig.stay hg, h.top⟩
theorem RAt.full {w : World} {B : Nat} {q : L} {r : R} (h : RAt w B q r) : RAt w w.heap.size q r :=
  ⟨h.str, h.l1, h.l2, h.l3, h.dots.up' h.dots.lim (Nat.le_refl _), h.val.up h.val.lim (Nat.le_refl _), h.sig.up h.sig.lim (Nat.le_refl _), h.top⟩
theorem RAt.keyLen {w : World} {B : Nat} {q : L} {r : R} (h : RAt w B q r) : r.key.length = q.s.size := by rw [← h.str, strL_len]
/-- its rows lie in new blocks -/
def L.New (q : L) (n0 : Nat) : Prop := (∀ g o, q.a1 = some ⟨g, o, none⟩ → n0 ≤ g) ∧ (∀ g o, q.a2 = some ⟨g, o, none⟩ → n0 ≤ g) ∧ ∀ g o, q.a3 = some ⟨g, o, none⟩ → n0 ≤ g
theorem dots_apart {w w' : World} {B T : Nat} {a : Option Addr} {l : List D} (h : DotsAt w B a l) (hg : w.grownBy w' (some T)) (hT : ∀ pb po, a = some ⟨pb, po, none⟩ → pb ≠ T) : DotsAt w' B a l := by
  refine ⟨Nat.le_trans h.lim hg.size, ?_⟩
  rcases h.cells with h0 | ⟨pb, po, ha, hlt, hc⟩
  · exact Or.inl h0
  · have e : ∀ o, w'.cell? ⟨pb, o, none⟩ = w.cell? ⟨pb, o, none⟩ := fun o => gb_cell hg (p := ⟨pb, o, none⟩) (Nat.lt_of_lt_of_le hlt h.lim) (fun e => hT pb po ha (Option.some.inj e))
    exact Or.inr ⟨pb, po, ha, hlt, fun i hi => by rw [e, e]; exact hc i hi⟩
theorem RAt.apart {w w' : World} {B T n0 : Nat} {q : L} {r : R} (h : RAt w B q r) (hg : w.grownBy w' (some T)) (hq : q.New n0) (hT : T < n0) : RAt w' B q r :=
  ⟨h.str, h.l1, h.l2, h.l3, dots_apart h.dots hg (fun pb po e => by have := hq.1 _ _ e; omega), h.val.apart hg (Or.inr fun pb po e => by have := hq.2.1 _ _ e; omega), h.sig.apart hg (Or.inr fun pb po e => by have := hq.2.2 _ _ e; omega), h.top⟩
end Rc
end Go.Proofs.YtohcoihdijemfaaGreat

/- record.dots: the numbers of dots, one behind the other. (The region printed by gen_rcdots.py.) -/
namespace Go.Proofs.YtohcoihdijemfaaGreat
open Go.RowKit Ow Wi Ve
namespace Rc
/-- the rows of dots -/
def dotR (l : List D) : List (List Nat) := l.flatMap fun d => [encN d.1, encN d.2]
theorem dotR_len (l : List D) : (dotR l).length = 2 * l.length := by
  induction l with
  | nil => rfl
  | cons d r ih => simp only [dotR, List.flatMap_cons, List.length_append, List.length_cons, List.length_nil] at ih ⊢; omega
theorem dotR_flat (l : List D) : (dotR l).flatten = dotsL l := by
  induction l with
  | nil => rfl
  | cons d r ih =>
    have h : (dotR (d :: r)).flatten = encN d.1 ++ (encN d.2 ++ (dotR r).flatten) := rfl
    rw [h, ih]; simp [dotsL, dotL]
theorem dotR_next (l : List D) (k : Nat) (h : k < l.length) {x y : Int} (e : l.getD k z0 = (x, y)) : dotR (l.take (k + 1)) = dotR (l.take k) ++ [encN x, encN y] := by
  rw [List.take_succ_eq_append_getElem h]
  have e2 : l[k] = (x, y) := by rw [← e, List.getD_eq_getElem?_getD, List.getElem?_eq_getElem h]; rfl
  rw [e2]
  simp [dotR]
theorem dotR_byte (l : List D) : ∀ r ∈ dotR l, ∀ i, r.getD i 0 < 256 := fun r hr => by
  obtain ⟨d, _, h⟩ := List.mem_flatMap.1 hr
  simp only [List.mem_cons, List.not_mem_nil, or_false] at h
  rcases h with rfl | rfl <;> exact encN_byte _
theorem dotsL_len (l : List D) : (dotsL l).length = 16 * l.length := by
  induction l with
  | nil => rfl
  | cons d r ih => simp only [dotsL, List.flatMap_cons, List.length_append, dotL, encN_length, List.length_cons] at ih ⊢; omega
theorem _root_.Go.Proofs.YtohcoihdijemfaaGreat.Parts.lt {w : World} {base : Nat} {v : Value} {L : List (List Nat)} (h : Parts w base v L) : ∀ g, v.ownBlock = some g → g < w.heap.size := fun g e => by
  obtain ⟨xs, ho, _⟩ := h
  exact (ho.lt g e).2
theorem _root_.Go.Proofs.YtohcoihdijemfaaGreat.Parts.gb {w w1 w2 w3 : World} {v : Value} {L : List (List Nat)} (h : Parts w1 w.heap.size v L) (hg : w.grownBy w1 none) (hg2 : w1.grownBy w2 none) (hg3 : w2.grownBy w3 v.ownBlock) : w.grownBy w3 none := by
  obtain ⟨xs, ho, _⟩ := h
  exact own_gb (gb_trans hg hg2) (ho.stay hg2) hg3
theorem number_row (n : Int) (n0 : Nat) (w : World) (h : n0 ≤ w.heap.size) : Calls Tryz.prog 9 #[.int .i64 n] w (fun e w' => ∃ v, e = .returned v ∧ w.grownBy w' none ∧ ∃ N, v = .slice (some ⟨N, 0, none⟩) 8 8 ∧ n0 ≤ N ∧ Blk w' N 5 ((encN n).map u8N)) :=
  (numF_any n w).mono fun _ _ ⟨g, he, hg, hn, hb⟩ => ⟨_, he, hg, g, rfl, Nat.le_trans h hn, hb⟩
/-- a slice of the dots l -/
def _root_.Go.Proofs.YtohcoihdijemfaaGreat.Fg.It.dts (l : List D) : Fg.It := ⟨fun v w => ∃ a cap B, v = .slice a l.length cap ∧ DotsAt w B a l, fun _ _ _ ⟨a, cap, B, e, h⟩ hg => ⟨a, cap, B, e, h.stay hg⟩⟩
set_option maxHeartbeats 1000000 in
set_option maxRecDepth 100000 in
theorem dots_out (n cap B : Nat) (l : List D) (a : Option Addr) (w : World) (hn : l.length = n) (h : DotsAt w B a l) (hm : n ≤ 8) :
    Calls Tryz.prog 103 #[.slice a n cap] w (YOut w (dotsL l)) := by
  have H := Lib.hid h; clear h
  have HL := Lib.hid hn; clear hn
  obtain ⟨Q, hQ⟩ : ∃ Q, Q = YOut w (dotsL l) := ⟨_, rfl⟩
  rw [← hQ]
  have HQ := Lib.hid hQ; clear hQ
  go_enter Tryz.func103, Tryz.ntmps103
  go_wp2
  go_loopw [3, 8] (fun v i wr => ∃ (k : Nat) (vr : Value), k ≤ n ∧ i = .int .i64 k ∧ vr = v ∧ Hid (w.grownBy wr none ∧ Parts wr w.heap.size vr (dotR (l.take k)))) (fun _ i _ => n - (intOf i).toNat)
  case atStart => exact ⟨0, _, by omega, rfl, rfl, gb_refl _ _, Parts.nil _ _⟩
  case round =>
    obtain ⟨k, vr, hk, rfl, rfl, HI⟩ := hrel
    by_cases hlt : k < n
    · have i0 : (k : Int) < (n : Int) := by omega
      obtain ⟨pb, po, rfl, hpb, hcs⟩ := (H.out.stay HI.out.1).cells.resolve_left (by rw [HL.out]; omega)
      obtain ⟨k1, k2⟩ := hcs k (by rw [HL.out]; exact hlt)
      obtain ⟨x, y, hxy⟩ : ∃ x y, l.getD k z0 = (x, y) := ⟨_, _, rfl⟩
      have HD := Lib.hid (And.intro (dotR_next l k (by rw [HL.out]; exact hlt) hxy) (And.intro hlt (And.intro hk (show k < 8 by omega))))
      rw [hxy] at k1 k2
      simp only at k1 k2
      clear hcs hxy
      obtain ⟨W1, hW1⟩ : ∃ W1, W1 = wr.alloc (.cells #[iV x, iV y] 99) := ⟨_, rfl⟩
      obtain ⟨N, hN⟩ : ∃ N, N = wr.heap.size := ⟨_, rfl⟩
      have HN : Hid (Blk W1 N 99 [iV x, iV y]) := by show Blk _ _ _ _; rw [hW1, hN]; exact Blk.new wr _ _
      have HN1 : Hid (wr.grownBy W1 none) := by show wr.grownBy _ none; rw [hW1]; exact gb_alloc (gb_refl _ _) _
      go_wp2_with fail
      rw [← hW1, ← hN]
      clear hW1 hN k1 k2
      refine Fg.region_t [] [.any, .any, .any, .any, .any, .any, .any, .any, .any, .any, .any, .any, .val (vr), .val (Value.pointer (some ⟨N, 0, none⟩)), .val (Value.int .i64 x), .row 5 ((encN x).map u8N) 8 W1.heap.size, .val (Value.pointer (some ⟨N, 1, none⟩)), .val (Value.int .i64 y), .row 5 ((encN y).map u8N) 8 W1.heap.size, .two W1.heap.size (encN x) (encN y)] W1 8 (gb_refl _ _) (by kernel_rfl) (by kernel_rfl) (by kernel_rfl) (by kernel_rfl) (by decide) (by kernel_rfl) ?_ ?_
      · refine ⟨Fg.vT rfl (by decide) fun ac w h => ?_, ?_⟩
        · have e3 : ac.tmps.getD 3 undef = vr := h.rest 3 (by kernel_rfl)
          exact ⟨_, w, wants_none rfl, Fg.run_move rfl e3, gb_refl _ _, rfl⟩
        refine ⟨Fg.vT rfl (by decide) fun ac w h => ?_, ?_⟩
        · have e5 : ac.tmps.getD 5 undef = Value.pointer (some ⟨N, 0, none⟩) := h.rest 5 (by kernel_rfl)
          refine ⟨Value.pointer (some ⟨N, 0, none⟩), w, wants_none rfl, ?_, gb_refl _ _, rfl⟩
          clear h
          simp only [execOp, Act.eval, e5]
          go_simp
        refine ⟨Fg.vT rfl (by decide) fun ac w h => ?_, ?_⟩
        · have e13 : ac.tmps.getD 13 undef = Value.pointer (some ⟨N, 0, none⟩) := h.dep 13 (by kernel_rfl)
          have c := ((HN.out.grown h.base (by simp)).cell (i := 0) rfl)
          refine ⟨Value.int .i64 x, w, wants_none rfl, ?_, gb_refl _ _, rfl⟩
          clear h
          simp only [execOp, Act.eval, e13]
          go_simp
        refine ⟨Fg.cT rfl (by decide) fun ac w h => ?_, ?_⟩
        · have e14 : ac.tmps.getD 14 undef = Value.int .i64 x := h.dep 14 (by kernel_rfl)
          refine ⟨9, #[Value.int .i64 x], wants_none rfl, Fg.run_call rfl rfl (by simp only [List.map_toArray, List.map_cons, List.map_nil, Act.eval, e14]) (Fg.run_enter Tryz.func9 (by kernel_rfl) (by kernel_rfl)), ?_⟩
          exact (number_row x W1.heap.size w h.base.size).mono fun _ _ ⟨v, he, hg, hb⟩ => ⟨v, he, hg, hb⟩
        refine ⟨Fg.vT rfl (by decide) fun ac w h => ?_, ?_⟩
        · have e5 : ac.tmps.getD 5 undef = Value.pointer (some ⟨N, 0, none⟩) := h.rest 5 (by kernel_rfl)
          refine ⟨Value.pointer (some ⟨N, 1, none⟩), w, wants_none rfl, ?_, gb_refl _ _, rfl⟩
          clear h
          simp only [execOp, Act.eval, e5]
          go_simp
        refine ⟨Fg.vT rfl (by decide) fun ac w h => ?_, ?_⟩
        · have e16 : ac.tmps.getD 16 undef = Value.pointer (some ⟨N, 1, none⟩) := h.dep 16 (by kernel_rfl)
          have c := ((HN.out.grown h.base (by simp)).cell (i := 1) rfl)
          refine ⟨Value.int .i64 y, w, wants_none rfl, ?_, gb_refl _ _, rfl⟩
          clear h
          simp only [execOp, Act.eval, e16]
          go_simp
        refine ⟨Fg.cT rfl (by decide) fun ac w h => ?_, ?_⟩
        · have e17 : ac.tmps.getD 17 undef = Value.int .i64 y := h.dep 17 (by kernel_rfl)
          refine ⟨9, #[Value.int .i64 y], wants_none rfl, Fg.run_call rfl rfl (by simp only [List.map_toArray, List.map_cons, List.map_nil, Act.eval, e17]) (Fg.run_enter Tryz.func9 (by kernel_rfl) (by kernel_rfl)), ?_⟩
          exact (number_row y W1.heap.size w h.base.size).mono fun _ _ ⟨v, he, hg, hb⟩ => ⟨v, he, hg, hb⟩
        refine ⟨Fg.vT rfl (by decide) fun ac w h => ?_, ?_⟩
        · obtain ⟨g15, e15, n15, b15⟩ : ∃ N, ac.tmps.getD 15 undef = .slice (some ⟨N, 0, none⟩) 8 8 ∧ W1.heap.size ≤ N ∧ Blk w N 5 ((encN x).map u8N) := h.dep 15 (by kernel_rfl)
          obtain ⟨g18, e18, n18, b18⟩ : ∃ N, ac.tmps.getD 18 undef = .slice (some ⟨N, 0, none⟩) 8 8 ∧ W1.heap.size ≤ N ∧ Blk w N 5 ((encN y).map u8N) := h.dep 18 (by kernel_rfl)
          refine ⟨.slice (some ⟨w.heap.size, 0, none⟩) 2 2, w.alloc (.cells #[.slice (some ⟨g15, 0, none⟩) 8 8, .slice (some ⟨g18, 0, none⟩) 8 8] 23), wants_none rfl, ?_, gb_alloc (gb_refl _ _) _, ⟨w.heap.size, g15, g18, rfl, ⟨h.base.size, n15, n18⟩, Blk.new w [.slice (some ⟨g15, 0, none⟩) 8 8, .slice (some ⟨g18, 0, none⟩) 8 8] _, b15.alloc _, b18.alloc _⟩⟩
          clear h
          simp only [execOp, Act.eval, e15, e18, List.map_toArray, List.map_cons, List.map_nil]
          go_simp
        trivial
      · intro aq wq hB hsz hdf hrest hslots hpt
        have e12 : aq.tmps.getD 12 undef = vr := hslots 12 (by kernel_rfl)
        obtain ⟨u13, e13⟩ : ∃ u, aq.tmps.getD 13 undef = u := ⟨_, rfl⟩
        obtain ⟨u14, e14⟩ : ∃ u, aq.tmps.getD 14 undef = u := ⟨_, rfl⟩
        obtain ⟨u15, e15⟩ : ∃ u, aq.tmps.getD 15 undef = u := ⟨_, rfl⟩
        obtain ⟨u16, e16⟩ : ∃ u, aq.tmps.getD 16 undef = u := ⟨_, rfl⟩
        obtain ⟨u17, e17⟩ : ∃ u, aq.tmps.getD 17 undef = u := ⟨_, rfl⟩
        obtain ⟨u18, e18⟩ : ∃ u, aq.tmps.getD 18 undef = u := ⟨_, rfl⟩
        obtain ⟨b19, p19, q19, e19, n19, h19, hp19, hq19⟩ : ∃ b g1 g2, aq.tmps.getD 19 undef = .slice (some ⟨b, 0, none⟩) 2 2 ∧ (W1.heap.size ≤ b ∧ W1.heap.size ≤ g1 ∧ W1.heap.size ≤ g2) ∧ Blk wq b 23 [.slice (some ⟨g1, 0, none⟩) 8 8, .slice (some ⟨g2, 0, none⟩) 8 8] ∧ Blk wq g1 5 ((encN x).map u8N) ∧ Blk wq g2 5 ((encN y).map u8N) := hslots 19 (by kernel_rfl)
        obtain rfl := Fg.frame_is (a := aq) (vs := [Value.slice (some ⟨pb, po, none⟩) n cap, undef, Value.slice none 0 0, vr, undef, Value.pointer (some ⟨N, 0, none⟩), Value.slice (some ⟨pb, po, none⟩) n cap, Value.int .i64 (n : Int), Value.int .i64 (k : Int), Value.bool true, Value.pointer (some ⟨pb, po + k * 2, none⟩), Value.agg #[iV x, iV y], vr, u13, u14, u15, u16, u17, u18, Value.slice (some ⟨b19, 0, none⟩) 2 2, u20, u21, undef, undef]) hsz ⟨hrest 0 (by kernel_rfl), hrest 1 (by kernel_rfl), hrest 2 (by kernel_rfl), hrest 3 (by kernel_rfl), hrest 4 (by kernel_rfl), hrest 5 (by kernel_rfl), hrest 6 (by kernel_rfl), hrest 7 (by kernel_rfl), hrest 8 (by kernel_rfl), hrest 9 (by kernel_rfl), hrest 10 (by kernel_rfl), hrest 11 (by kernel_rfl), e12, e13, e14, e15, e16, e17, e18, e19, hrest 20 (by kernel_rfl), hrest 21 (by kernel_rfl), hrest 22 (by kernel_rfl), hrest 23 (by kernel_rfl), trivial⟩ hdf
        clear hsz hdf hrest hslots hpt e12 e13 e14 e15 e16 e17 e18 e19
        have HP := Lib.hid (HI.out.2.stay (gb_trans HN1.out hB))
        have hlt := HI.out.2.lt
        have hbb := hB.size
        have hww := HN1.out.size
        obtain ⟨v2, w2, hap, hP2, hg2, hnb⟩ := parts_pushs wq w.heap.size b19 _ vr (dotR (l.take k)) [(some ⟨p19, 0, none⟩, 8, encN x), (some ⟨q19, 0, none⟩, 8, encN y)] HP.out (by simpa [rowV, encN_length] using h19) (fun e => by have := hlt _ e; omega) (by simp) (fun p hp => by
          simp only [List.mem_cons, List.not_mem_nil, or_false] at hp
          rcases hp with rfl | rfl
          · exact ⟨numF_bytes hp19, fun pb po e => by cases e; exact ⟨fun e => by have := hlt _ e; omega, hp19.lt⟩⟩
          · exact ⟨numF_bytes hq19, fun pb po e => by cases e; exact ⟨fun e => by have := hlt _ e; omega, hq19.lt⟩⟩) (Nat.le_trans HI.out.1.size (by omega)) (by rw [dotR_len, List.length_take]; have := HD.out.2.2.2; simp; omega)
        have HS := Lib.hid (show w.grownBy w2 none ∧ Parts w2 w.heap.size v2 (dotR (l.take (k + 1))) from ⟨HI.out.2.gb HI.out.1 (gb_trans HN1.out hB) hg2, by rw [HD.out.1]; exact hP2⟩)
        have HA := Lib.hid hap
        clear hP2 hg2 hnb hap hB hlt h19 hp19 hq19 n19 HP hbb hww
        refine wpList_append_run rfl (.tmp 12) (.tmp 19) 22 rfl rfl _ _ rfl rfl _ _ HA.out ?_
        refine Fg.wpl_value (v := v2) (w' := w2) rfl (Fg.run_assign rfl rfl) ?_
        refine wpList_nil ?_
        simp only [Act.put, List.setIfInBounds_toArray, List.set_cons_succ, List.set_cons_zero]
        go_wp2
        go_roundw
        case rel => exact ⟨k + 1, v2, by omega, by go_num, rfl, HS.out⟩
        case measure => simp [intOf]; omega
    · obtain rfl : k = n := by omega
      have e0 : l.take k = l := by rw [← HL.out]; exact List.take_length
      have hP := HI.out.2
      rw [e0] at hP
      obtain ⟨ap, cp, rfl, hR⟩ := hP.rows
      have HJ := Lib.hid (join_out (dotR l).length (dotR l) ap cp _ wr rfl hR (by rw [dotR_len, HL.out]; omega) (by rw [dotR_flat, dotsL_len, HL.out]; omega) (dotR_byte l))
      have HG := Lib.hid HI.out.1
      clear hP hR e0 HI
      rw [dotR_flat] at HJ
      generalize (dotR l).length = m at *
      go_wp2_with fail
      refine HJ.out.mono ?_
      rintro e w2 ⟨a2, c2, rfl, hg, hb⟩
      have HR : Hid (Q (.returned (.slice a2 (dotsL l).length c2)) w2) := by rw [HQ.out]; exact ⟨a2, c2, rfl, gb_trans HG.out hg, hb⟩
      clear hg hb
      go_wp2
      exact HR.out
end Rc
end Go.Proofs.YtohcoihdijemfaaGreat

/- A record at work: its dot, whether it is placed, whether its shape is right. -/
namespace Go.Proofs.YtohcoihdijemfaaGreat
open Go.RowKit Ow Wi Ve
namespace Rc
/-- a record's value, spelled out -/
abbrev vV (s : ByteArray) (cl sq : Int) (a1 : Option Addr) (n1 c1 : Nat) (g : Bool) (a2 : Option Addr) (n2 c2 : Nat) (a3 : Option Addr) (n3 c3 : Nat) : Value :=
  .agg #[.string s, iV cl, iV sq, .slice a1 n1 c1, .bool g, .slice a2 n2 c2, .slice a3 n3 c3]
section
set_option maxHeartbeats 400000 in
theorem dot_any (s : ByteArray) (cl sq : Int) (a1 : Option Addr) (n1 c1 : Nat) (g : Bool) (a2 : Option Addr) (n2 c2 : Nat) (a3 : Option Addr) (n3 c3 : Nat) (w : World) :
    Calls Tryz.prog 63 #[vV s cl sq a1 n1 c1 g a2 n2 c2 a3 n3 c3] w fun e w' => e = .returned (.agg #[iV cl, iV sq]) ∧ w.grownBy w' none := by
  go_enter Tryz.func63, Tryz.ntmps63
  go_wp2
  exact bodyPost_ret (v := .agg #[iV cl, iV sq]) (by simp [results, Tryz.results63, go_sem]) rfl ⟨rfl, gb_alloc (gb_alloc (gb_refl _ _) _) _⟩
set_option maxHeartbeats 400000 in
theorem placed_any (b : Bool) (r : R) (B : Nat) (w : World) (q : L) (h : RAt w B q r) (hb : placedB r = b) :
    Calls Tryz.prog 102 #[q.v r] w fun e w' => e = .returned (.bool b) ∧ w.grownBy w' none := by
  obtain ⟨s, a1, n1, c1, a2, n2, c2, a3, n3, c3⟩ := q
  obtain ⟨key, cl, sq, cx, g, val, sig⟩ := r
  have hl : cx.length = n1 := h.l1
  have HA := Lib.hid (fun w' (hg : w.grownBy w' none) => vright_any B n1 c1 a1 cx w' hl (h.dots.stay hg) h.top)
  have HO := Lib.hid (fun w' B2 a2 c2 (h2 : DotsAt w' B2 a2 [(cl, sq)]) => vright_any B2 1 c2 a2 [(cl, sq)] w' rfl h2 (by decide))
  have HC := Lib.hid (fun w' (hg : w.grownBy w' none) B2 a2 c2 (h2 : DotsAt w' B2 a2 [(cl, sq)]) => vcovers_any B B2 n1 1 c1 c2 a1 a2 cx [(cl, sq)] w' hl rfl (h.dots.stay hg) h2 h.top (by decide))
  clear h hl
  rw [rtB_one] at HO
  rw [← hasB_is] at HC
  have hb' : (okD (cl, sq) && rtB 0 cx && !hasB cx (cl, sq)) = b := hb
  clear hb
  generalize okD (cl, sq) = x at *
  generalize rtB 0 cx = y at *
  generalize hasB cx (cl, sq) = z at *
  show Calls _ _ #[vV s cl sq a1 n1 c1 g a2 n2 c2 a3 n3 c3] w _
  obtain ⟨N, hN⟩ : ∃ N, N = w.heap.size := ⟨_, rfl⟩
  obtain ⟨W0, hW0⟩ : ∃ W0, W0 = w.alloc (.cells #[.string s, iV cl, iV sq, .slice a1 n1 c1, .bool g, .slice a2 n2 c2, .slice a3 n3 c3] 102) := ⟨_, rfl⟩
  have hG0 : w.grownBy W0 none := by rw [hW0]; exact gb_alloc (gb_refl _ _) _
  have hB0 : Blk W0 N 102 [.string s, iV cl, iV sq, .slice a1 n1 c1, .bool g, .slice a2 n2 c2, .slice a3 n3 c3] := by rw [hW0, hN]; exact Blk.new w _ _
  have HG0 := Lib.hid (And.intro hG0 hB0); clear hG0 hB0
  go_enter Tryz.func102, Tryz.ntmps102
  go_wp2_with fail
  rw [← hW0, ← hN]
  clear hW0 hN
  refine (dot_any s cl sq a1 n1 c1 g a2 n2 c2 a3 n3 c3 W0).mono ?_
  rintro e w1 ⟨rfl, hg⟩
  have hD := dots_one w1 cl sq 99
  obtain ⟨W1, hW1⟩ : ∃ W1, W1 = w1.alloc (.cells #[iV cl, iV sq] 99) := ⟨_, rfl⟩
  rw [← hW1] at hD
  have hg1 : w.grownBy W1 none := by rw [hW1]; exact gb_alloc (gb_trans HG0.out.1 hg) _
  have hB1 : Blk W1 N 102 [.string s, iV cl, iV sq, .slice a1 n1 c1, .bool g, .slice a2 n2 c2, .slice a3 n3 c3] := by rw [hW1]; exact (HG0.out.2.grown hg (by simp)).alloc _
  have HG1 := Lib.hid (And.intro hg1 (And.intro hD hB1)); clear hg1 hD hg hB1
  obtain ⟨M, hM⟩ : ∃ M, M = w1.heap.size := ⟨_, rfl⟩
  rw [← hM] at HG1
  go_wp2_with fail
  rw [← hW1, ← hM]
  clear hW1 hM
  refine (HO.out _ _ _ 1 HG1.out.2.1).mono ?_
  rintro e w2 ⟨rfl, hg⟩
  have c3 := (HG1.out.2.2.grown hg (by simp)).cell (i := 3) rfl
  have HG2 := Lib.hid (And.intro (gb_trans HG1.out.1 hg) (HG1.out.2.1.stay hg)); clear hg
  cases x with
  | false =>
    go_wp2
    go_ret
    exact ⟨by rw [← hb']; rfl, HG2.out.1⟩
  | true =>
    go_wp2_with fail
    refine (HA.out _ HG2.out.1).mono ?_
    rintro e w3 ⟨rfl, hg⟩
    have c4 : w3.cell? ⟨N, 3, none⟩ = some (.slice a1 n1 c1) := by rw [gb_cell hg (block_lt_of_cell c3) (by simp)]; exact c3
    have HG3 := Lib.hid (And.intro (gb_trans HG2.out.1 hg) (HG2.out.2.stay hg)); clear hg c3
    cases y with
    | false =>
      go_wp2
      go_ret
      exact ⟨by rw [← hb']; rfl, HG3.out.1⟩
    | true =>
      go_wp2_with fail
      refine (HC.out _ HG3.out.1 _ _ _ HG3.out.2).mono ?_
      rintro e w4 ⟨rfl, hg⟩
      have HG4 := Lib.hid (gb_trans HG3.out.1 hg); clear hg c4
      go_wp2
      go_ret
      exact ⟨by rw [← hb']; simp, HG4.out⟩
set_option maxHeartbeats 400000 in
theorem shaped_any (b : Bool) (r : R) (B : Nat) (w : World) (q : L) (h : RAt w B q r) (hb : shapeB r = b) :
    Calls Tryz.prog 59 #[q.v r] w fun e w' => e = .returned (.bool b) ∧ w.grownBy w' none := by
  have HP := Lib.hid (fun w' (hg : w.grownBy w' none) => placed_any _ r B w' q (h.stay hg) rfl)
  have hk := h.keyLen
  have hv := h.l2
  clear h
  unfold shapeB keyB valB at hb
  generalize placedB r = z at HP hb
  obtain ⟨s, a1, n1, c1, a2, n2, c2, a3, n3, c3⟩ := q
  obtain ⟨key, cl, sq, cx, g, val, sig⟩ := r
  simp only at hk hv hb
  rw [hk, hv] at hb
  clear hk hv
  show Calls _ _ #[vV s cl sq a1 n1 c1 g a2 n2 c2 a3 n3 c3] w _
  replace HP : Hid (∀ w' (hg : w.grownBy w' none), Calls Tryz.prog 102 #[vV s cl sq a1 n1 c1 g a2 n2 c2 a3 n3 c3] w' fun e w'' => e = .returned (.bool z) ∧ w'.grownBy w'' none) := HP
  obtain ⟨N, hN⟩ : ∃ N, N = w.heap.size := ⟨_, rfl⟩
  obtain ⟨W0, hW0⟩ : ∃ W0, W0 = w.alloc (.cells #[.string s, iV cl, iV sq, .slice a1 n1 c1, .bool g, .slice a2 n2 c2, .slice a3 n3 c3] 102) := ⟨_, rfl⟩
  have hG0 : w.grownBy W0 none := by rw [hW0]; exact gb_alloc (gb_refl _ _) _
  have hB0 : Blk W0 N 102 [.string s, iV cl, iV sq, .slice a1 n1 c1, .bool g, .slice a2 n2 c2, .slice a3 n3 c3] := by rw [hW0, hN]; exact Blk.new w _ _
  have HG0 := Lib.hid (And.intro hG0 hB0); clear hG0 hB0
  cases g
  all_goals
    simp only [Bool.false_eq_true, if_true, if_false] at hb
    have HB := Lib.hid hb; clear hb
    go_enter Tryz.func59, Tryz.ntmps59
    by_cases h1 : 1 ≤ s.size
    · have i1 : (1 : Int) ≤ (s.size : Int) := by omega
      by_cases h2 : s.size ≤ 64
      · have i2 : (s.size : Int) ≤ 64 := by omega
        go_wp2_with fail
        rw [← hW0, ← hN]
        clear hW0 hN
        refine (HP.out W0 HG0.out.1).mono ?_
        rintro e w1 ⟨rfl, hg⟩
        have k5 := (HG0.out.2.grown hg (by simp)).cell (i := 5) rfl
        have HG1 := Lib.hid (gb_trans HG0.out.1 hg); clear hg
        cases z with
        | false =>
          have HF : Hid (b = false) := by show b = _; rw [← HB.out]; simp
          go_wp2
          go_ret
          exact ⟨by rw [HF.out]; rfl, HG1.out⟩
        | true =>
          have HE : Hid ((decide (n2 ≤ 1024) = decide ((n2 : Int) ≤ 1024)) ∧ decide (n2 ≤ 0) = decide (n2 = 0)) := ⟨by rw [Bool.eq_iff_iff]; simp; omega, by simp⟩
          go_wp2
          go_ret
          refine ⟨?_, HG1.out⟩
          first
          | exact congrArg (fun x => Ending.returned (Value.bool x)) (show decide ((n2 : Int) ≤ 1024) = b from by have h := HB.out; rw [HE.out.1] at h; rw [← h]; simp [h1, h2])
          | exact congrArg (fun x => Ending.returned (Value.bool x)) (show decide (n2 = 0) = b from by have h := HB.out; rw [HE.out.2] at h; rw [← h]; simp [h1, h2])
      · have i2 : ¬ (s.size : Int) ≤ 64 := by omega
        have HF : Hid (b = false) := by show b = _; rw [← HB.out]; simp [h2]
        go_wp2
        go_ret
        exact ⟨by rw [HF.out]; rfl, by rw [← hW0]; exact HG0.out.1⟩
    · have i1 : ¬ (1 : Int) ≤ (s.size : Int) := by omega
      have HF : Hid (b = false) := by show b = _; rw [← HB.out]; simp [h1]
      go_wp2
      go_ret
      exact ⟨by rw [HF.out]; rfl, by rw [← hW0]; exact HG0.out.1⟩
end
end Rc
end Go.Proofs.YtohcoihdijemfaaGreat

/- A slot that holds bytes of one's own. -/
namespace Go.Proofs.YtohcoihdijemfaaGreat
open Go.RowKit Ow Wi
/-- bytes of one's own, in a block from b on -/
def _root_.Go.Proofs.YtohcoihdijemfaaGreat.Fg.It.ow (b : Nat) (l : List Nat) : Fg.It := ⟨fun v w => w.ownsRow b 5 1 v l.length (l.map u8N), fun v _ _ h hg => h.kept hg (by cases v.ownBlock <;> simp)⟩
end Go.Proofs.YtohcoihdijemfaaGreat

/- (record.work).text: a record's text. (The region printed by gen_rctext.py.) -/
namespace Go.Proofs.YtohcoihdijemfaaGreat
open Go.RowKit Ow Wi Ve
namespace Rc
theorem goneN_byte (g : Bool) (i : Nat) : ([goneN g] : List Nat).getD i 0 < 256 := by
  rcases i with _ | i
  · cases g <;> decide
  · simp
theorem rowL_byte {l : List Nat} (h : ∀ i, l.getD i 0 < 256) : ∀ i, (rowL l).getD i 0 < 256 := app_byte (encN_byte _) h
theorem rowL_len (l : List Nat) : (rowL l).length = 8 + l.length := by unfold rowL; rw [List.length_append, encN_length]
theorem dotsL_byte (l : List D) : ∀ i, (dotsL l).getD i 0 < 256 := by rw [← dotR_flat]; exact flat_byte (dotR_byte l)
set_option maxHeartbeats 4000000 in
set_option maxRecDepth 100000 in
theorem text_own (r : R) (B : Nat) (w : World) (q : L) (h : RAt w B q r) (hb : shapeB r = true) :
    Calls Tryz.prog 60 #[q.v r] w (fun e w' => ∃ v, e = .returned v ∧ w.grownBy w' none ∧ w'.ownsRow w.heap.size 5 1 v (textL r).length ((textL r).map u8N)) := by
  obtain ⟨_, h2, _, h4, h5, _⟩ := shape_of hb
  have hcx : (r.cx.length : Int) ≤ 8 := by have := h4.len (by decide); omega
  have hk := h.keyLen
  clear hb h4
  obtain ⟨s, a1, n1, c1, a2, n2, c2, a3, n3, c3⟩ := q
  obtain ⟨key, cl, sq, cx, g, val, sig⟩ := r
  have hs : strL s = key := h.str
  subst hs
  have l1 : cx.length = n1 := h.l1
  have l2 : val.length = n2 := h.l2
  simp only at h2 h5 hk hcx
  rw [hk] at h2
  have HK : Hid (s.size ≤ 64) := h2
  have HD : Hid (DotsAt w B a1 cx ∧ cx.length = n1 ∧ n1 ≤ 8) := ⟨h.dots, l1, by omega⟩
  have HV : Hid (BytesAt w B a2 c2 val ∧ val.length = n2 ∧ val.length ≤ 1024) := ⟨h.val, l2, h5⟩
  obtain ⟨gl, hgl⟩ : ∃ gl, gl = g := ⟨_, rfl⟩
  have HT : Hid ([[1], rowL (strL s), dotsL [(cl, sq)], encN (n1 : Int), dotsL cx, [goneN gl], rowL val].flatten = textL ⟨strL s, cl, sq, cx, g, val, sig⟩ ∧ [[1], rowL (strL s), dotsL [(cl, sq)], encN (n1 : Int), dotsL cx, [goneN gl], rowL val].flatten.length ≤ 1000000 ∧ ∀ l ∈ [[1], rowL (strL s), dotsL [(cl, sq)], encN (n1 : Int), dotsL cx, [goneN gl], rowL val], ∀ i, l.getD i 0 < 256) := by
    refine ⟨?_, ?_, fun l hl => ?_⟩
    · rw [hgl, ← l1]
      simp [textL, dotsL, R.dot]
    · simp only [List.flatten_cons, List.flatten_nil, List.length_append, List.length_cons, List.length_nil, rowL_len, dotsL_len, encN_length, strL_len]
      omega
    · simp only [List.mem_cons, List.not_mem_nil, or_false] at hl
      rcases hl with rfl | rfl | rfl | rfl | rfl | rfl | rfl
      · intro i; rcases i with _ | i <;> simp
      · exact rowL_byte (strL_byte s)
      · exact dotsL_byte _
      · exact encN_byte _
      · exact dotsL_byte _
      · exact goneN_byte _
      · exact rowL_byte h.val.byte
  clear h l1 l2 h2 h5 hk hcx
  show Calls _ _ #[vV s cl sq a1 n1 c1 g a2 n2 c2 a3 n3 c3] w _
  rw [← HT.out.1]
  obtain ⟨Q, hQ⟩ : ∃ Q : Ending → World → Prop, Q = (fun e w' => ∃ v, e = .returned v ∧ w.grownBy w' none ∧ w'.ownsRow w.heap.size 5 1 v [[1], rowL (strL s), dotsL [(cl, sq)], encN (n1 : Int), dotsL cx, [goneN gl], rowL val].flatten.length ([[1], rowL (strL s), dotsL [(cl, sq)], encN (n1 : Int), dotsL cx, [goneN gl], rowL val].flatten.map u8N)) := ⟨_, rfl⟩
  rw [← hQ]
  have HQ := Lib.hid hQ; clear hQ
  obtain ⟨N, hN⟩ : ∃ N, N = w.heap.size := ⟨_, rfl⟩
  obtain ⟨W0, hW0⟩ : ∃ W0, W0 = w.alloc (.cells #[.string s, iV cl, iV sq, .slice a1 n1 c1, .bool g, .slice a2 n2 c2, .slice a3 n3 c3] 102) := ⟨_, rfl⟩
  have hG0 : w.grownBy W0 none := by rw [hW0]; exact gb_alloc (gb_refl _ _) _
  have hB0 : Blk W0 N 102 [.string s, iV cl, iV sq, .slice a1 n1 c1, .bool gl, .slice a2 n2 c2, .slice a3 n3 c3] := by rw [hW0, hN, hgl]; exact Blk.new w _ _
  have HG0 := Lib.hid (And.intro hG0 hB0); clear hG0 hB0
  go_enter Tryz.func60, Tryz.ntmps60
  cases g
  all_goals
    have HGL := Lib.hid hgl; clear hgl
    go_wp2_with fail
    rw [← hW0, ← hN]
    clear hW0 hN
    have hgl := HGL.out
    refine Fg.region_t [] [.any, .any, Fg.It.ow W0.heap.size [[1], rowL (strL s), dotsL [(cl, sq)], encN (n1 : Int), dotsL cx, [goneN gl], rowL val].flatten, .any, .any, .any, .any, Fg.It.by [1], .val (Value.pointer (some ⟨N, 0, none⟩)), .val (Value.pointer (some ⟨N, 0, none⟩)), .val (Value.string s), Fg.It.by (strL s), Fg.It.by (rowL (strL s)), .val (vV s cl sq a1 n1 c1 gl a2 n2 c2 a3 n3 c3), .val (Value.agg #[iV cl, iV sq]), .dts [(cl, sq)], Fg.It.by (dotsL [(cl, sq)]), .val (Value.pointer (some ⟨N, 0, none⟩)), .val (Value.pointer (some ⟨N, 3, none⟩)), .val (Value.slice a1 n1 c1), .val (Value.int .i64 n1), Fg.It.by (encN (n1 : Int)), .val (Value.pointer (some ⟨N, 0, none⟩)), .val (Value.pointer (some ⟨N, 3, none⟩)), .val (Value.slice a1 n1 c1), Fg.It.by (dotsL cx), .val (Value.int .u8 (goneN gl : Nat)), Fg.It.by [goneN gl], .val (Value.pointer (some ⟨N, 0, none⟩)), .val (Value.pointer (some ⟨N, 5, none⟩)), .val (Value.slice a2 n2 c2), Fg.It.by (rowL val), Fg.It.rws [[1], rowL (strL s), dotsL [(cl, sq)], encN (n1 : Int), dotsL cx, [goneN gl], rowL val], Fg.It.ow W0.heap.size [[1], rowL (strL s), dotsL [(cl, sq)], encN (n1 : Int), dotsL cx, [goneN gl], rowL val].flatten] W0 28 (gb_refl _ _) (by kernel_rfl) (by kernel_rfl) (by kernel_rfl) (by kernel_rfl) (by decide) (by kernel_rfl) ?_ ?_
    · refine ⟨Fg.vT rfl (by decide) fun ac w h => ?_, ?_⟩
      · refine ⟨.slice (some ⟨w.heap.size, 0, none⟩) 1 1, w.alloc (.cells #[.int .u8 1] 5), wants_none rfl, ?_, gb_alloc (gb_refl _ _) _, ⟨_, 1, _, rfl, bytes_box [1] (fun i => by rcases i with _ | i <;> simp) (by decide)⟩⟩
        clear h
        simp only [execOp, Act.eval, List.map_toArray, List.map_cons, List.map_nil]
        go_simp
      refine ⟨Fg.vT rfl (by decide) fun ac w h => ?_, ?_⟩
      · have e1 : ac.tmps.getD 1 undef = Value.pointer (some ⟨N, 0, none⟩) := h.rest 1 (by kernel_rfl)
        refine ⟨Value.pointer (some ⟨N, 0, none⟩), w, wants_none rfl, ?_, gb_refl _ _, rfl⟩
        clear h
        simp only [execOp, Act.eval, e1]
        go_simp
      refine ⟨Fg.vT rfl (by decide) fun ac w h => ?_, ?_⟩
      · have e8 : ac.tmps.getD 8 undef = Value.pointer (some ⟨N, 0, none⟩) := h.dep 8 (by kernel_rfl)
        refine ⟨Value.pointer (some ⟨N, 0, none⟩), w, wants_none rfl, ?_, gb_refl _ _, rfl⟩
        clear h
        simp only [execOp, Act.eval, e8]
        go_simp
      refine ⟨Fg.vT rfl (by decide) fun ac w h => ?_, ?_⟩
      · have e9 : ac.tmps.getD 9 undef = Value.pointer (some ⟨N, 0, none⟩) := h.dep 9 (by kernel_rfl)
        have c := (HG0.out.2.grown h.base (by simp)).cell (i := 0) rfl
        refine ⟨Value.string s, w, wants_none rfl, ?_, gb_refl _ _, rfl⟩
        clear h
        simp only [execOp, Act.eval, e9]
        go_simp
      refine ⟨Fg.vT rfl (by decide) fun ac w h => ?_, ?_⟩
      · have e10 : ac.tmps.getD 10 undef = Value.string s := h.dep 10 (by kernel_rfl)
        obtain ⟨c11, w11, hr11, hg11, hb11⟩ := str_bytes s w (by have := HK.out; omega)
        refine ⟨.slice (some ⟨w.heap.size, 0, none⟩) s.size c11, w11, wants_none rfl, ?_, hg11, ⟨_, _, _, by rw [strL_len], hb11⟩⟩
        clear h hb11 hg11
        simp only [execOp, Act.eval, e10]
        simp [hr11, Result.andThen]
      refine ⟨Fg.cT rfl (by decide) fun ac w h => ?_, ?_⟩
      · obtain ⟨a11, k11, B11, e11, b11⟩ : ∃ x c B, ac.tmps.getD 11 undef = .slice x (strL s).length c ∧ BytesAt w B x c (strL s) := h.dep 11 (by kernel_rfl)
        refine ⟨14, #[Value.slice a11 (strL s).length k11], wants_none rfl, Fg.run_call rfl rfl (by simp only [List.map_toArray, List.map_cons, List.map_nil, Act.eval, e11]) (Fg.run_enter Tryz.func14 (by kernel_rfl) (by kernel_rfl)), ?_⟩
        exact (bytes_out _ (strL s) a11 k11 B11 w rfl b11 (by rw [strL_len]; have := HK.out; omega)).mono fun _ _ ⟨_, _, he, hg, hb⟩ => ⟨_, he, hg, _, _, _, rfl, hb⟩
      refine ⟨Fg.vT rfl (by decide) fun ac w h => ?_, ?_⟩
      · have e1 : ac.tmps.getD 1 undef = Value.pointer (some ⟨N, 0, none⟩) := h.rest 1 (by kernel_rfl)
        have m0 := (HG0.out.2.grown h.base (by simp)).cell (i := 0) rfl
        have m1 := (HG0.out.2.grown h.base (by simp)).cell (i := 1) rfl
        have m2 := (HG0.out.2.grown h.base (by simp)).cell (i := 2) rfl
        have m3 := (HG0.out.2.grown h.base (by simp)).cell (i := 3) rfl
        have m4 := (HG0.out.2.grown h.base (by simp)).cell (i := 4) rfl
        have m5 := (HG0.out.2.grown h.base (by simp)).cell (i := 5) rfl
        have m6 := (HG0.out.2.grown h.base (by simp)).cell (i := 6) rfl
        refine ⟨vV s cl sq a1 n1 c1 gl a2 n2 c2 a3 n3 c3, w, wants_none rfl, ?_, gb_refl _ _, rfl⟩
        clear h
        simp only [execOp, Act.eval, e1]
        go_simp
      refine ⟨Fg.cT rfl (by decide) fun ac w h => ?_, ?_⟩
      · have e13 : ac.tmps.getD 13 undef = vV s cl sq a1 n1 c1 gl a2 n2 c2 a3 n3 c3 := h.dep 13 (by kernel_rfl)
        refine ⟨63, #[vV s cl sq a1 n1 c1 gl a2 n2 c2 a3 n3 c3], wants_none rfl, Fg.run_call rfl rfl (by simp only [List.map_toArray, List.map_cons, List.map_nil, Act.eval, e13]) (Fg.run_enter Tryz.func63 (by kernel_rfl) (by kernel_rfl)), ?_⟩
        exact (dot_any s cl sq a1 n1 c1 gl a2 n2 c2 a3 n3 c3 w).mono fun _ _ ⟨he, hg⟩ => ⟨_, he, hg, rfl⟩
      refine ⟨Fg.vT rfl (by decide) fun ac w h => ?_, ?_⟩
      · have e14 : ac.tmps.getD 14 undef = Value.agg #[iV cl, iV sq] := h.dep 14 (by kernel_rfl)
        refine ⟨.slice (some ⟨w.heap.size, 0, none⟩) 1 1, w.alloc (.cells #[iV cl, iV sq] 99), wants_none rfl, ?_, gb_alloc (gb_refl _ _) _, ⟨_, 1, _, rfl, dots_one w cl sq _⟩⟩
        clear h
        simp only [execOp, Act.eval, e14, List.map_toArray, List.map_cons, List.map_nil]
        go_simp
      refine ⟨Fg.cT rfl (by decide) fun ac w h => ?_, ?_⟩
      · obtain ⟨a15, k15, B15, e15, b15⟩ : ∃ x c B, ac.tmps.getD 15 undef = .slice x [(cl, sq)].length c ∧ DotsAt w B x [(cl, sq)] := h.dep 15 (by kernel_rfl)
        refine ⟨103, #[Value.slice a15 [(cl, sq)].length k15], wants_none rfl, Fg.run_call rfl rfl (by simp only [List.map_toArray, List.map_cons, List.map_nil, Act.eval, e15]) (Fg.run_enter Tryz.func103 (by kernel_rfl) (by kernel_rfl)), ?_⟩
        exact (dots_out 1 k15 B15 [(cl, sq)] a15 w rfl b15 (by decide)).mono fun _ _ ⟨_, _, he, hg, hb⟩ => ⟨_, he, hg, _, _, _, rfl, hb⟩
      refine ⟨Fg.vT rfl (by decide) fun ac w h => ?_, ?_⟩
      · have e1 : ac.tmps.getD 1 undef = Value.pointer (some ⟨N, 0, none⟩) := h.rest 1 (by kernel_rfl)
        refine ⟨Value.pointer (some ⟨N, 0, none⟩), w, wants_none rfl, ?_, gb_refl _ _, rfl⟩
        clear h
        simp only [execOp, Act.eval, e1]
        go_simp
      refine ⟨Fg.vT rfl (by decide) fun ac w h => ?_, ?_⟩
      · have e17 : ac.tmps.getD 17 undef = Value.pointer (some ⟨N, 0, none⟩) := h.dep 17 (by kernel_rfl)
        refine ⟨Value.pointer (some ⟨N, 3, none⟩), w, wants_none rfl, ?_, gb_refl _ _, rfl⟩
        clear h
        simp only [execOp, Act.eval, e17]
        go_simp
      refine ⟨Fg.vT rfl (by decide) fun ac w h => ?_, ?_⟩
      · have e18 : ac.tmps.getD 18 undef = Value.pointer (some ⟨N, 3, none⟩) := h.dep 18 (by kernel_rfl)
        have c := (HG0.out.2.grown h.base (by simp)).cell (i := 3) rfl
        refine ⟨Value.slice a1 n1 c1, w, wants_none rfl, ?_, gb_refl _ _, rfl⟩
        clear h
        simp only [execOp, Act.eval, e18]
        go_simp
      refine ⟨Fg.vT rfl (by decide) fun ac w h => ?_, ?_⟩
      · have e19 : ac.tmps.getD 19 undef = Value.slice a1 n1 c1 := h.dep 19 (by kernel_rfl)
        have x19 : ac.tmps[19]?.getD undef = Value.slice a1 n1 c1 := by simpa using e19
        refine ⟨.int .i64 n1, w, wants_none rfl, ?_, gb_refl _ _, rfl⟩
        clear h e19
        go_simp
      refine ⟨Fg.cT rfl (by decide) fun ac w h => ?_, ?_⟩
      · have e20 : ac.tmps.getD 20 undef = Value.int .i64 n1 := h.dep 20 (by kernel_rfl)
        refine ⟨9, #[Value.int .i64 n1], wants_none rfl, Fg.run_call rfl rfl (by simp only [List.map_toArray, List.map_cons, List.map_nil, Act.eval, e20]) (Fg.run_enter Tryz.func9 (by kernel_rfl) (by kernel_rfl)), ?_⟩
        exact (number_out (n1 : Int) w).mono fun _ _ ⟨_, _, he, hg, hb⟩ => ⟨_, he, hg, _, _, _, rfl, hb⟩
      refine ⟨Fg.vT rfl (by decide) fun ac w h => ?_, ?_⟩
      · have e1 : ac.tmps.getD 1 undef = Value.pointer (some ⟨N, 0, none⟩) := h.rest 1 (by kernel_rfl)
        refine ⟨Value.pointer (some ⟨N, 0, none⟩), w, wants_none rfl, ?_, gb_refl _ _, rfl⟩
        clear h
        simp only [execOp, Act.eval, e1]
        go_simp
      refine ⟨Fg.vT rfl (by decide) fun ac w h => ?_, ?_⟩
      · have e22 : ac.tmps.getD 22 undef = Value.pointer (some ⟨N, 0, none⟩) := h.dep 22 (by kernel_rfl)
        refine ⟨Value.pointer (some ⟨N, 3, none⟩), w, wants_none rfl, ?_, gb_refl _ _, rfl⟩
        clear h
        simp only [execOp, Act.eval, e22]
        go_simp
      refine ⟨Fg.vT rfl (by decide) fun ac w h => ?_, ?_⟩
      · have e23 : ac.tmps.getD 23 undef = Value.pointer (some ⟨N, 3, none⟩) := h.dep 23 (by kernel_rfl)
        have c := (HG0.out.2.grown h.base (by simp)).cell (i := 3) rfl
        refine ⟨Value.slice a1 n1 c1, w, wants_none rfl, ?_, gb_refl _ _, rfl⟩
        clear h
        simp only [execOp, Act.eval, e23]
        go_simp
      refine ⟨Fg.cT rfl (by decide) fun ac w h => ?_, ?_⟩
      · have e24 : ac.tmps.getD 24 undef = Value.slice a1 n1 c1 := h.dep 24 (by kernel_rfl)
        refine ⟨103, #[Value.slice a1 n1 c1], wants_none rfl, Fg.run_call rfl rfl (by simp only [List.map_toArray, List.map_cons, List.map_nil, Act.eval, e24]) (Fg.run_enter Tryz.func103 (by kernel_rfl) (by kernel_rfl)), ?_⟩
        exact (dots_out n1 c1 B cx a1 w HD.out.2.1 (HD.out.1.stay (gb_trans HG0.out.1 h.base)) HD.out.2.2).mono fun _ _ ⟨_, _, he, hg, hb⟩ => ⟨_, he, hg, _, _, _, rfl, hb⟩
      refine ⟨Fg.vT rfl (by decide) fun ac w h => ?_, ?_⟩
      · have e3 : ac.tmps.getD 3 undef = Value.int .u8 (goneN gl : Nat) := (h.rest 3 (by kernel_rfl)).trans (by rw [hgl]; rfl)
        exact ⟨_, w, wants_none rfl, Fg.run_move rfl e3, gb_refl _ _, rfl⟩
      refine ⟨Fg.vT rfl (by decide) fun ac w h => ?_, ?_⟩
      · have e26 : ac.tmps.getD 26 undef = Value.int .u8 (goneN gl : Nat) := h.dep 26 (by kernel_rfl)
        refine ⟨.slice (some ⟨w.heap.size, 0, none⟩) 1 1, w.alloc (.cells #[.int .u8 (goneN gl : Nat)] 5), wants_none rfl, ?_, gb_alloc (gb_refl _ _) _, ⟨_, 1, _, rfl, bytes_box [goneN gl] (goneN_byte gl) (by simp)⟩⟩
        clear h
        simp only [execOp, Act.eval, e26, List.map_toArray, List.map_cons, List.map_nil]
        go_simp
      refine ⟨Fg.vT rfl (by decide) fun ac w h => ?_, ?_⟩
      · have e1 : ac.tmps.getD 1 undef = Value.pointer (some ⟨N, 0, none⟩) := h.rest 1 (by kernel_rfl)
        refine ⟨Value.pointer (some ⟨N, 0, none⟩), w, wants_none rfl, ?_, gb_refl _ _, rfl⟩
        clear h
        simp only [execOp, Act.eval, e1]
        go_simp
      refine ⟨Fg.vT rfl (by decide) fun ac w h => ?_, ?_⟩
      · have e28 : ac.tmps.getD 28 undef = Value.pointer (some ⟨N, 0, none⟩) := h.dep 28 (by kernel_rfl)
        refine ⟨Value.pointer (some ⟨N, 5, none⟩), w, wants_none rfl, ?_, gb_refl _ _, rfl⟩
        clear h
        simp only [execOp, Act.eval, e28]
        go_simp
      refine ⟨Fg.vT rfl (by decide) fun ac w h => ?_, ?_⟩
      · have e29 : ac.tmps.getD 29 undef = Value.pointer (some ⟨N, 5, none⟩) := h.dep 29 (by kernel_rfl)
        have c := (HG0.out.2.grown h.base (by simp)).cell (i := 5) rfl
        refine ⟨Value.slice a2 n2 c2, w, wants_none rfl, ?_, gb_refl _ _, rfl⟩
        clear h
        simp only [execOp, Act.eval, e29]
        go_simp
      refine ⟨Fg.cT rfl (by decide) fun ac w h => ?_, ?_⟩
      · have e30 : ac.tmps.getD 30 undef = Value.slice a2 n2 c2 := h.dep 30 (by kernel_rfl)
        refine ⟨14, #[Value.slice a2 n2 c2], wants_none rfl, Fg.run_call rfl rfl (by simp only [List.map_toArray, List.map_cons, List.map_nil, Act.eval, e30]) (Fg.run_enter Tryz.func14 (by kernel_rfl) (by kernel_rfl)), ?_⟩
        exact (bytes_out n2 val a2 c2 B w HV.out.2.1 (HV.out.1.stay (gb_trans HG0.out.1 h.base)) (by have := HV.out.2.2; omega)).mono fun _ _ ⟨_, _, he, hg, hb⟩ => ⟨_, he, hg, _, _, _, rfl, hb⟩
      refine ⟨Fg.vT rfl (by decide) fun ac w h => ?_, ?_⟩
      · obtain ⟨a7, k7, B7, e7, b7⟩ : ∃ x c B, ac.tmps.getD 7 undef = .slice x [1].length c ∧ BytesAt w B x c [1] := h.dep 7 (by kernel_rfl)
        obtain ⟨a12, k12, B12, e12, b12⟩ : ∃ x c B, ac.tmps.getD 12 undef = .slice x (rowL (strL s)).length c ∧ BytesAt w B x c (rowL (strL s)) := h.dep 12 (by kernel_rfl)
        obtain ⟨a16, k16, B16, e16, b16⟩ : ∃ x c B, ac.tmps.getD 16 undef = .slice x (dotsL [(cl, sq)]).length c ∧ BytesAt w B x c (dotsL [(cl, sq)]) := h.dep 16 (by kernel_rfl)
        obtain ⟨a21, k21, B21, e21, b21⟩ : ∃ x c B, ac.tmps.getD 21 undef = .slice x (encN (n1 : Int)).length c ∧ BytesAt w B x c (encN (n1 : Int)) := h.dep 21 (by kernel_rfl)
        obtain ⟨a25, k25, B25, e25, b25⟩ : ∃ x c B, ac.tmps.getD 25 undef = .slice x (dotsL cx).length c ∧ BytesAt w B x c (dotsL cx) := h.dep 25 (by kernel_rfl)
        obtain ⟨a27, k27, B27, e27, b27⟩ : ∃ x c B, ac.tmps.getD 27 undef = .slice x [goneN gl].length c ∧ BytesAt w B x c [goneN gl] := h.dep 27 (by kernel_rfl)
        obtain ⟨a31, k31, B31, e31, b31⟩ : ∃ x c B, ac.tmps.getD 31 undef = .slice x (rowL val).length c ∧ BytesAt w B x c (rowL val) := h.dep 31 (by kernel_rfl)
        refine ⟨.slice (some ⟨w.heap.size, 0, none⟩) 7 7, w.alloc (.cells #[.slice a7 [1].length k7, .slice a12 (rowL (strL s)).length k12, .slice a16 (dotsL [(cl, sq)]).length k16, .slice a21 (encN (n1 : Int)).length k21, .slice a25 (dotsL cx).length k25, .slice a27 [goneN gl].length k27, .slice a31 (rowL val).length k31] 23), wants_none rfl, ?_, gb_alloc (gb_refl _ _) _, ⟨_, 7, _, rfl, rows_box _ [(a7, k7, [1]), (a12, k12, rowL (strL s)), (a16, k16, dotsL [(cl, sq)]), (a21, k21, encN (n1 : Int)), (a25, k25, dotsL cx), (a27, k27, [goneN gl]), (a31, k31, rowL val)] (fun p hp => by
            simp only [List.mem_cons, List.not_mem_nil, or_false] at hp
            rcases hp with rfl | rfl | rfl | rfl | rfl | rfl | rfl
            · exact ⟨_, b7⟩
            · exact ⟨_, b12⟩
            · exact ⟨_, b16⟩
            · exact ⟨_, b21⟩
            · exact ⟨_, b25⟩
            · exact ⟨_, b27⟩
            · exact ⟨_, b31⟩)⟩⟩
        clear h
        simp only [execOp, Act.eval, e7, e12, e16, e21, e25, e27, e31, List.map_toArray, List.map_cons, List.map_nil]
        go_simp
      refine ⟨Fg.cT rfl (by decide) fun ac w h => ?_, ?_⟩
      · obtain ⟨a32, k32, B32, e32, b32⟩ : ∃ x c B, ac.tmps.getD 32 undef = .slice x [[1], rowL (strL s), dotsL [(cl, sq)], encN (n1 : Int), dotsL cx, [goneN gl], rowL val].length c ∧ RowsAt w B x [[1], rowL (strL s), dotsL [(cl, sq)], encN (n1 : Int), dotsL cx, [goneN gl], rowL val] := h.dep 32 (by kernel_rfl)
        refine ⟨10, #[Value.slice a32 [[1], rowL (strL s), dotsL [(cl, sq)], encN (n1 : Int), dotsL cx, [goneN gl], rowL val].length k32], wants_none rfl, Fg.run_call rfl rfl (by simp only [List.map_toArray, List.map_cons, List.map_nil, Act.eval, e32]) (Fg.run_enter Tryz.func10 (by kernel_rfl) (by kernel_rfl)), ?_⟩
        exact (join_any 7 k32 B32 [[1], rowL (strL s), dotsL [(cl, sq)], encN (n1 : Int), dotsL cx, [goneN gl], rowL val] a32 w rfl b32 (by simp) HT.out.2.1).mono fun _ _ ⟨_, he, hg, ho⟩ => ⟨_, he, hg, own_down ho h.base.size⟩
      refine ⟨Fg.vT rfl (by decide) fun ac w h => ?_, ?_⟩
      · obtain ⟨v33, e33, b33⟩ : ∃ v, ac.tmps.getD 33 undef = v ∧ w.ownsRow W0.heap.size 5 1 v [[1], rowL (strL s), dotsL [(cl, sq)], encN (n1 : Int), dotsL cx, [goneN gl], rowL val].flatten.length ([[1], rowL (strL s), dotsL [(cl, sq)], encN (n1 : Int), dotsL cx, [goneN gl], rowL val].flatten.map u8N) := ⟨_, rfl, h.dep 33 (by kernel_rfl)⟩
        exact ⟨_, w, wants_none rfl, Fg.run_assign rfl e33, gb_refl _ _, b33⟩
      trivial
    · intro aq wq hB hsz hdf hrest hslots hpt
      obtain ⟨u0, e0⟩ : ∃ u, aq.tmps.getD 0 undef = u := ⟨_, rfl⟩
      obtain ⟨v2, e2, b2⟩ : ∃ v, aq.tmps.getD 2 undef = v ∧ wq.ownsRow W0.heap.size 5 1 v [[1], rowL (strL s), dotsL [(cl, sq)], encN (n1 : Int), dotsL cx, [goneN gl], rowL val].flatten.length ([[1], rowL (strL s), dotsL [(cl, sq)], encN (n1 : Int), dotsL cx, [goneN gl], rowL val].flatten.map u8N) := ⟨_, rfl, hslots 2 (by kernel_rfl)⟩
      obtain ⟨u3, e3⟩ : ∃ u, aq.tmps.getD 3 undef = u := ⟨_, rfl⟩
      obtain ⟨u6, e6⟩ : ∃ u, aq.tmps.getD 6 undef = u := ⟨_, rfl⟩
      obtain ⟨u7, e7⟩ : ∃ u, aq.tmps.getD 7 undef = u := ⟨_, rfl⟩
      obtain ⟨u8, e8⟩ : ∃ u, aq.tmps.getD 8 undef = u := ⟨_, rfl⟩
      obtain ⟨u9, e9⟩ : ∃ u, aq.tmps.getD 9 undef = u := ⟨_, rfl⟩
      obtain ⟨u10, e10⟩ : ∃ u, aq.tmps.getD 10 undef = u := ⟨_, rfl⟩
      obtain ⟨u11, e11⟩ : ∃ u, aq.tmps.getD 11 undef = u := ⟨_, rfl⟩
      obtain ⟨u12, e12⟩ : ∃ u, aq.tmps.getD 12 undef = u := ⟨_, rfl⟩
      obtain ⟨u13, e13⟩ : ∃ u, aq.tmps.getD 13 undef = u := ⟨_, rfl⟩
      obtain ⟨u14, e14⟩ : ∃ u, aq.tmps.getD 14 undef = u := ⟨_, rfl⟩
      obtain ⟨u15, e15⟩ : ∃ u, aq.tmps.getD 15 undef = u := ⟨_, rfl⟩
      obtain ⟨u16, e16⟩ : ∃ u, aq.tmps.getD 16 undef = u := ⟨_, rfl⟩
      obtain ⟨u17, e17⟩ : ∃ u, aq.tmps.getD 17 undef = u := ⟨_, rfl⟩
      obtain ⟨u18, e18⟩ : ∃ u, aq.tmps.getD 18 undef = u := ⟨_, rfl⟩
      obtain ⟨u19, e19⟩ : ∃ u, aq.tmps.getD 19 undef = u := ⟨_, rfl⟩
      obtain ⟨u20, e20⟩ : ∃ u, aq.tmps.getD 20 undef = u := ⟨_, rfl⟩
      obtain ⟨u21, e21⟩ : ∃ u, aq.tmps.getD 21 undef = u := ⟨_, rfl⟩
      obtain ⟨u22, e22⟩ : ∃ u, aq.tmps.getD 22 undef = u := ⟨_, rfl⟩
      obtain ⟨u23, e23⟩ : ∃ u, aq.tmps.getD 23 undef = u := ⟨_, rfl⟩
      obtain ⟨u24, e24⟩ : ∃ u, aq.tmps.getD 24 undef = u := ⟨_, rfl⟩
      obtain ⟨u25, e25⟩ : ∃ u, aq.tmps.getD 25 undef = u := ⟨_, rfl⟩
      obtain ⟨u26, e26⟩ : ∃ u, aq.tmps.getD 26 undef = u := ⟨_, rfl⟩
      obtain ⟨u27, e27⟩ : ∃ u, aq.tmps.getD 27 undef = u := ⟨_, rfl⟩
      obtain ⟨u28, e28⟩ : ∃ u, aq.tmps.getD 28 undef = u := ⟨_, rfl⟩
      obtain ⟨u29, e29⟩ : ∃ u, aq.tmps.getD 29 undef = u := ⟨_, rfl⟩
      obtain ⟨u30, e30⟩ : ∃ u, aq.tmps.getD 30 undef = u := ⟨_, rfl⟩
      obtain ⟨u31, e31⟩ : ∃ u, aq.tmps.getD 31 undef = u := ⟨_, rfl⟩
      obtain ⟨u32, e32⟩ : ∃ u, aq.tmps.getD 32 undef = u := ⟨_, rfl⟩
      obtain ⟨u33, e33⟩ : ∃ u, aq.tmps.getD 33 undef = u := ⟨_, rfl⟩
      obtain rfl := Fg.frame_is (a := aq) (vs := [u0, Value.pointer (some ⟨N, 0, none⟩), v2, u3, Value.pointer (some ⟨N, 0, none⟩), Value.pointer (some ⟨N, 4, none⟩), u6, u7, u8, u9, u10, u11, u12, u13, u14, u15, u16, u17, u18, u19, u20, u21, u22, u23, u24, u25, u26, u27, u28, u29, u30, u31, u32, u33]) hsz ⟨e0, hrest 1 (by kernel_rfl), e2, e3, hrest 4 (by kernel_rfl), hrest 5 (by kernel_rfl), e6, e7, e8, e9, e10, e11, e12, e13, e14, e15, e16, e17, e18, e19, e20, e21, e22, e23, e24, e25, e26, e27, e28, e29, e30, e31, e32, e33, trivial⟩ hdf
      clear hsz hdf hrest hslots hpt e0 e2 e3 e6 e7 e8 e9 e10 e11 e12 e13 e14 e15 e16 e17 e18 e19 e20 e21 e22 e23 e24 e25 e26 e27 e28 e29 e30 e31 e32 e33
      have HR : Hid (Q (.returned v2) wq) := by rw [HQ.out]; exact ⟨_, rfl, gb_trans HG0.out.1 hB, own_down b2 HG0.out.1.size⟩
      clear b2 hB
      refine wpList_nil ?_
      go_wp2
      exact HR.out
end Rc
end Go.Proofs.YtohcoihdijemfaaGreat

/- record.Text, Right, Put: what they tell of any record. (Printed by gen_rccalls.py.) -/
namespace Go.Proofs.YtohcoihdijemfaaGreat
open Go.RowKit Ow Wi Ve
namespace Rc
def textO (r : R) : List Nat := if shapeB r then textL r else []
def putO (r : R) : List Nat := if rightB r then putL r else []
def errN (b : Bool) (n : Int) : Int := if b then 0 else n
theorem text_small {w : World} {B : Nat} {q : L} {r : R} (h : RAt w B q r) (hs : shapeB r = true) : (textL r).length ≤ 2000 ∧ ∀ i, (textL r).getD i 0 < 256 := by
  obtain ⟨_, h2, _, h4, h5, _⟩ := shape_of hs
  have hcx : (r.cx.length : Int) ≤ 8 := by have := h4.len (by decide); omega
  have hk : ∀ i, r.key.getD i 0 < 256 := by rw [← h.str]; exact strL_byte _
  have e : textL r = [1] ++ (rowL r.key ++ (dotsL [r.dot] ++ (encN (r.cx.length : Int) ++ (dotsL r.cx ++ ([goneN r.gone] ++ rowL r.val))))) := by simp [textL, dotsL]
  rw [e]
  refine ⟨?_, app_byte (fun i => by rcases i with _ | i <;> simp) (app_byte (rowL_byte hk) (app_byte (dotsL_byte _) (app_byte (encN_byte _) (app_byte (dotsL_byte _) (app_byte (goneN_byte _) (rowL_byte h.val.byte))))))⟩
  simp only [List.length_append, List.length_cons, List.length_nil, rowL_len, dotsL_len, encN_length]
  omega
theorem text_out (r : R) (B : Nat) (w : World) (q : L) (h : RAt w B q r) (hb : shapeB r = true) : Calls Tryz.prog 60 #[q.v r] w (YOut w (textL r)) :=
  (text_own r B w q h hb).mono fun _ _ ⟨_, he, hg, ho⟩ => he ▸ bout_own hg ho rfl (text_small h hb).2
/-- bytes of one's own -/
def TOwn (w : World) (l : List Nat) (e : Ending) (w' : World) : Prop := ∃ v, e = .returned v ∧ w.grownBy w' none ∧ w'.ownsRow w.heap.size 5 1 v l.length (l.map u8N)
theorem town_nil (w w' : World) (hg : w.grownBy w' none) : TOwn w [] (.returned (.slice none 0 0)) w' := ⟨_, rfl, hg, World.ownsRow_nil _ _ _ _⟩
theorem town_from {w0 w w' : World} {l : List Nat} {e : Ending} (h : TOwn w l e w') (hg : w0.grownBy w none) : TOwn w0 l e w' := by
  obtain ⟨v, he, hg2, hb⟩ := h
  exact ⟨v, he, gb_trans hg hg2, own_down hb hg.size⟩
def POwn (w : World) (l : List Nat) (n : Int) (e : Ending) (w' : World) : Prop := ∃ v, e = .returned (.tuple #[v, .int .i64 n]) ∧ w.grownBy w' none ∧ w'.ownsRow w.heap.size 5 1 v l.length (l.map u8N)
theorem bout_nil (w w' : World) (hg : w.grownBy w' none) : YOut w [] (.returned (.slice none 0 0)) w' := ⟨none, 0, rfl, hg, Nat.le_refl _, Nat.le_refl _, by decide, fun i => by simp, Or.inl rfl⟩
theorem bout_from {w0 w w' : World} {l : List Nat} {e : Ending} (h : YOut w l e w') (hg : w0.grownBy w none) : YOut w0 l e w' := by
  obtain ⟨a, c, he, hg2, hb⟩ := h
  exact ⟨a, c, he, gb_trans hg hg2, hb⟩
set_option maxHeartbeats 1000000 in
theorem rtext_own (r : R) (B : Nat) (w : World) (q : L) (h : RAt w B q r) : Calls Tryz.prog 33 #[q.v r] w (TOwn w (textO r)) := by
  have HS := Lib.hid (fun w' (hg : w.grownBy w' none) => shaped_any (shapeB r) r B w' q (h.stay hg) rfl)
  have HT := Lib.hid (fun (hs : shapeB r = true) w' (hg : w.grownBy w' none) => text_own r B w' q (h.stay hg) hs)
  clear h
  obtain ⟨Q, hQ⟩ : ∃ Q, Q = TOwn w (textO r) := ⟨_, rfl⟩
  rw [← hQ]
  unfold textO at hQ
  generalize textL r = T at HT hQ
  cases hb : shapeB r with
  | false =>
    rw [hb] at HS hQ
    clear HT
    have HQ : Hid (∀ w', w.grownBy w' none → Q (.returned (.slice none 0 0)) w') := fun w' hg => by rw [hQ]; exact town_nil w w' hg
    clear hQ hb
    obtain ⟨s, a1, n1, c1, a2, n2, c2, a3, n3, c3⟩ := q
    obtain ⟨key, cl, sq, cx, g, val, sig⟩ := r
    replace HS : Hid (∀ w' (_ : w.grownBy w' none), Calls Tryz.prog 59 #[vV s cl sq a1 n1 c1 g a2 n2 c2 a3 n3 c3] w' fun e w'' => e = .returned (.bool false) ∧ w'.grownBy w'' none) := HS
    show Calls _ _ #[vV s cl sq a1 n1 c1 g a2 n2 c2 a3 n3 c3] w _
    go_enter Tryz.func33, Tryz.ntmps33
    go_wp2_with fail
    refine (HS.out _ (gb_alloc (gb_alloc (gb_refl _ _) _) _)).mono ?_
    rintro e w1 ⟨rfl, hg⟩
    have HG := Lib.hid (gb_trans (gb_alloc (gb_alloc (gb_refl _ _) _) _) hg); clear hg
    go_wp2
    exact HQ.out _ HG.out
  | true =>
    rw [hb] at HS
    replace HT := Lib.hid (HT.out hb)
    rw [hb, if_pos rfl] at hQ
    clear hb
    have HQ : Hid (∀ w' e w'', w.grownBy w' none → TOwn w' T e w'' → Q e w'') := fun w' e w'' hg ho => by rw [hQ]; exact town_from ho hg
    clear hQ
    obtain ⟨s, a1, n1, c1, a2, n2, c2, a3, n3, c3⟩ := q
    obtain ⟨key, cl, sq, cx, g, val, sig⟩ := r
    replace HS : Hid (∀ w' (_ : w.grownBy w' none), Calls Tryz.prog 59 #[vV s cl sq a1 n1 c1 g a2 n2 c2 a3 n3 c3] w' fun e w'' => e = .returned (.bool true) ∧ w'.grownBy w'' none) := HS
    replace HT : Hid (∀ w' (_ : w.grownBy w' none), Calls Tryz.prog 60 #[vV s cl sq a1 n1 c1 g a2 n2 c2 a3 n3 c3] w' (TOwn w' T)) := HT
    show Calls _ _ #[vV s cl sq a1 n1 c1 g a2 n2 c2 a3 n3 c3] w _
    obtain ⟨N, hN⟩ : ∃ N, N = w.heap.size + 1 := ⟨_, rfl⟩
    obtain ⟨W0, hW0⟩ : ∃ W0, W0 = (w.alloc (.cells #[.string s, iV cl, iV sq, .slice a1 n1 c1, .bool g, .slice a2 n2 c2, .slice a3 n3 c3] 50)).alloc (.cells #[.string s, iV cl, iV sq, .slice a1 n1 c1, .bool g, .slice a2 n2 c2, .slice a3 n3 c3] 102) := ⟨_, rfl⟩
    have hG0 : w.grownBy W0 none := by rw [hW0]; exact gb_alloc (gb_alloc (gb_refl _ _) _) _
    have hB0 : Blk W0 N 102 [.string s, iV cl, iV sq, .slice a1 n1 c1, .bool g, .slice a2 n2 c2, .slice a3 n3 c3] := by rw [hW0, hN, ← World.size_alloc]; exact Blk.new _ _ _
    have HG0 := Lib.hid (And.intro hG0 hB0); clear hG0 hB0
    go_enter Tryz.func33, Tryz.ntmps33
    go_wp2_with fail
    rw [← hW0, ← hN]
    clear hW0 hN
    refine (HS.out _ HG0.out.1).mono ?_
    rintro e w1 ⟨rfl, hg⟩
    have hB1 := HG0.out.2.grown hg (by simp)
    have m0 := hB1.cell (i := 0) rfl
    have m1 := hB1.cell (i := 1) rfl
    have m2 := hB1.cell (i := 2) rfl
    have m3 := hB1.cell (i := 3) rfl
    have m4 := hB1.cell (i := 4) rfl
    have m5 := hB1.cell (i := 5) rfl
    have m6 := hB1.cell (i := 6) rfl
    have HG := Lib.hid (gb_trans HG0.out.1 hg); clear hg hB1
    go_wp2_with fail
    refine (HT.out _ HG.out).mono ?_
    rintro e w2 ho
    have HO := Lib.hid (HQ.out _ _ _ HG.out ho)
    obtain ⟨v, rfl, _⟩ := ho
    go_wp2
    exact HO.out
theorem textO_lt {w : World} {B : Nat} {q : L} {r : R} (h : RAt w B q r) : ∀ i, (textO r).getD i 0 < 256 := by
  unfold textO
  cases hs : shapeB r with
  | false => simp
  | true => exact (text_small h hs).2
theorem rtext_any (r : R) (B : Nat) (w : World) (q : L) (h : RAt w B q r) : Calls Tryz.prog 33 #[q.v r] w (YOut w (textO r)) :=
  (rtext_own r B w q h).mono fun _ _ ⟨_, he, hg, ho⟩ => he ▸ bout_own hg ho rfl (textO_lt h)
set_option maxHeartbeats 1000000 in
theorem rright_any (r : R) (B : Nat) (w : World) (q : L) (h : RAt w B q r) : Calls Tryz.prog 36 #[q.v r] w fun e w' => e = .returned (.bool (rightB r)) ∧ w.grownBy w' none := by
  have HS := Lib.hid (fun w' (hg : w.grownBy w' none) => shaped_any (shapeB r) r B w' q (h.stay hg) rfl)
  have hl := h.l3
  clear h
  obtain ⟨b, hb⟩ : ∃ b, b = rightB r := ⟨_, rfl⟩
  rw [← hb]
  unfold rightB at hb
  rw [hl] at hb
  clear hl
  generalize shapeB r = x at HS hb
  obtain ⟨s, a1, n1, c1, a2, n2, c2, a3, n3, c3⟩ := q
  obtain ⟨key, cl, sq, cx, g, val, sig⟩ := r
  replace HS : Hid (∀ w' (_ : w.grownBy w' none), Calls Tryz.prog 59 #[vV s cl sq a1 n1 c1 g a2 n2 c2 a3 n3 c3] w' fun e w'' => e = .returned (.bool x) ∧ w'.grownBy w'' none) := HS
  show Calls _ _ #[vV s cl sq a1 n1 c1 g a2 n2 c2 a3 n3 c3] w _
  obtain ⟨N, hN⟩ : ∃ N, N = w.heap.size := ⟨_, rfl⟩
  obtain ⟨W0, hW0⟩ : ∃ W0, W0 = w.alloc (.cells #[.string s, iV cl, iV sq, .slice a1 n1 c1, .bool g, .slice a2 n2 c2, .slice a3 n3 c3] 50) := ⟨_, rfl⟩
  have hG0 : w.grownBy W0 none := by rw [hW0]; exact gb_alloc (gb_refl _ _) _
  have hB0 : Blk W0 N 50 [.string s, iV cl, iV sq, .slice a1 n1 c1, .bool g, .slice a2 n2 c2, .slice a3 n3 c3] := by rw [hW0, hN]; exact Blk.new _ _ _
  have HG0 := Lib.hid (And.intro hG0 hB0); clear hG0 hB0
  have HB := Lib.hid hb; clear hb
  go_enter Tryz.func36, Tryz.ntmps36
  go_wp2_with fail
  rw [← hW0, ← hN]
  clear hW0 hN
  refine (HS.out _ HG0.out.1).mono ?_
  rintro e w1 ⟨rfl, hg⟩
  have m6 := (HG0.out.2.grown hg (by simp)).cell (i := 6) rfl
  have HG := Lib.hid (gb_trans HG0.out.1 hg); clear hg
  cases x with
  | false =>
    go_wp2
    go_ret
    exact ⟨by rw [HB.out]; rfl, HG.out⟩
  | true =>
    by_cases h3 : n3 = 64
    · subst h3
      go_wp2
      go_ret
      exact ⟨by rw [HB.out]; rfl, HG.out⟩
    · have i3 : ((n3 : Int) == 64) = false := by rw [beq_eq_false_iff_ne]; omega
      have HF : Hid (b = false) := by show _ = _; rw [HB.out]; simp [h3]
      clear h3
      go_wp2
      go_ret
      exact ⟨by rw [HF.out]; rfl, HG.out⟩
def POut (w : World) (l : List Nat) (n : Int) (e : Ending) (w' : World) : Prop := ∃ a c, e = .returned (.tuple #[.slice a l.length c, .int .i64 n]) ∧ w.grownBy w' none ∧ BytesAt w' w'.heap.size a c l
set_option maxHeartbeats 1000000 in
theorem rput_own (r : R) (B : Nat) (w : World) (q : L) (h : RAt w B q r) : Calls Tryz.prog 34 #[q.v r] w (POwn w (putO r) (errN (rightB r) 4)) := by
  have HS := Lib.hid (fun w' (hg : w.grownBy w' none) => rright_any r B w' q (h.stay hg))
  cases hb : rightB r with
  | false =>
    rw [hb] at HS
    have HQ : Hid (∀ w', w.grownBy w' none → POwn w (putO r) (errN false 4) (.returned (.tuple #[.slice none 0 0, .int .i64 4])) w') := fun w' hg => by
      unfold putO
      rw [hb]
      exact ⟨_, rfl, hg, World.ownsRow_nil _ _ _ _⟩
    clear h hb
    generalize POwn w (putO r) (errN false 4) = Q at *
    obtain ⟨s, a1, n1, c1, a2, n2, c2, a3, n3, c3⟩ := q
    obtain ⟨key, cl, sq, cx, g, val, sig⟩ := r
    replace HS : Hid (∀ w' (_ : w.grownBy w' none), Calls Tryz.prog 36 #[vV s cl sq a1 n1 c1 g a2 n2 c2 a3 n3 c3] w' fun e w'' => e = .returned (.bool false) ∧ w'.grownBy w'' none) := HS
    show Calls _ _ #[vV s cl sq a1 n1 c1 g a2 n2 c2 a3 n3 c3] w _
    go_enter Tryz.func34, Tryz.ntmps34
    go_wp2_with fail
    refine (HS.out _ (gb_alloc (gb_refl _ _) _)).mono ?_
    rintro e w1 ⟨rfl, hg⟩
    have HG := Lib.hid (gb_trans (gb_alloc (gb_refl _ _) _) hg); clear hg
    go_wp2
    exact HQ.out _ HG.out
  | true =>
    rw [hb] at HS
    have hs : shapeB r = true := by simp only [rightB, Bool.and_eq_true] at hb; exact hb.1
    have HT := Lib.hid (fun w' (hg : w.grownBy w' none) => rtext_any r B w' q (h.stay hg))
    have HQ : Hid (∀ w' v, w.grownBy w' none → w'.ownsRow w.heap.size 5 1 v [textL r, r.sig].flatten.length ([textL r, r.sig].flatten.map u8N) → POwn w (putO r) (errN true 4) (.returned (.tuple #[v, .int .i64 0])) w') := fun w' v hg hB => by
      have e : [textL r, r.sig].flatten = putO r := by unfold putO; rw [hb]; simp [putL]
      rw [e] at hB
      exact ⟨v, rfl, hg, hB⟩
    have e : textO r = textL r := by unfold textO; rw [hs]; rfl
    rw [e] at HT
    have l3 := h.l3
    have hsh := shape_of hs
    have hT : (textL r).length ≤ 2000 ∧ ∀ i, (textL r).getD i 0 < 256 := text_small h hs
    have HL : Hid (([textL r, r.sig].flatten).length ≤ 1000000 ∧ ∀ l ∈ [textL r, r.sig], ∀ i, l.getD i 0 < 256) := by
      have h64 : r.sig.length = 64 := by simp only [rightB, Bool.and_eq_true, decide_eq_true_eq] at hb; exact hb.2
      refine ⟨by simp only [List.flatten_cons, List.flatten_nil, List.length_append, List.length_nil, h64]; omega, fun l hl => ?_⟩
      simp only [List.mem_cons, List.not_mem_nil, or_false] at hl
      rcases hl with rfl | rfl
      · exact hT.2
      · exact h.sig.byte
    have HSG := Lib.hid (And.intro h.sig l3)
    generalize textL r = T at *
    clear h hb hs e hsh hT l3
    generalize POwn w (putO r) (errN true 4) = Q at *
    obtain ⟨s, a1, n1, c1, a2, n2, c2, a3, n3, c3⟩ := q
    obtain ⟨key, cl, sq, cx, g, val, sig⟩ := r
    replace HS : Hid (∀ w' (_ : w.grownBy w' none), Calls Tryz.prog 36 #[vV s cl sq a1 n1 c1 g a2 n2 c2 a3 n3 c3] w' fun e w'' => e = .returned (.bool true) ∧ w'.grownBy w'' none) := HS
    replace HT : Hid (∀ w' (_ : w.grownBy w' none), Calls Tryz.prog 33 #[vV s cl sq a1 n1 c1 g a2 n2 c2 a3 n3 c3] w' (YOut w' T)) := HT
    replace HSG : Hid (BytesAt w B a3 c3 sig ∧ sig.length = n3) := HSG
    simp only at HL HQ
    show Calls _ _ #[vV s cl sq a1 n1 c1 g a2 n2 c2 a3 n3 c3] w _
    obtain ⟨N, hN⟩ : ∃ N, N = w.heap.size := ⟨_, rfl⟩
    obtain ⟨W0, hW0⟩ : ∃ W0, W0 = w.alloc (.cells #[.string s, iV cl, iV sq, .slice a1 n1 c1, .bool g, .slice a2 n2 c2, .slice a3 n3 c3] 50) := ⟨_, rfl⟩
    have hG0 : w.grownBy W0 none := by rw [hW0]; exact gb_alloc (gb_refl _ _) _
    have hB0 : Blk W0 N 50 [.string s, iV cl, iV sq, .slice a1 n1 c1, .bool g, .slice a2 n2 c2, .slice a3 n3 c3] := by rw [hW0, hN]; exact Blk.new _ _ _
    have HG0 := Lib.hid (And.intro hG0 hB0); clear hG0 hB0
    go_enter Tryz.func34, Tryz.ntmps34
    go_wp2_with fail
    rw [← hW0, ← hN]
    clear hW0 hN
    refine (HS.out _ HG0.out.1).mono ?_
    rintro e w1 ⟨rfl, hg⟩
    have HG := Lib.hid (And.intro (gb_trans HG0.out.1 hg) (HG0.out.2.grown hg (by simp))); clear hg HG0
    go_wp2_with fail
    refine Fg.region_t [] [.any, .any, Fg.It.ow w1.heap.size [T, sig].flatten, .val (Value.int .i64 0), .any, .any, .any, .val (vV s cl sq a1 n1 c1 g a2 n2 c2 a3 n3 c3), Fg.It.by T, .val (Value.pointer (some ⟨N, 6, none⟩)), .val (Value.slice a3 n3 c3), Fg.It.rws [T, sig], Fg.It.ow w1.heap.size [T, sig].flatten] w1 8 (gb_refl _ _) (by kernel_rfl) (by kernel_rfl) (by kernel_rfl) (by kernel_rfl) (by decide) (by kernel_rfl) ?_ ?_
    · refine ⟨Fg.vT rfl (by decide) fun ac w h => ?_, ?_⟩
      · have e1 : ac.tmps.getD 1 undef = Value.pointer (some ⟨N, 0, none⟩) := h.rest 1 (by kernel_rfl)
        have m0 := (HG.out.2.grown h.base (by simp)).cell (i := 0) rfl
        have m1 := (HG.out.2.grown h.base (by simp)).cell (i := 1) rfl
        have m2 := (HG.out.2.grown h.base (by simp)).cell (i := 2) rfl
        have m3 := (HG.out.2.grown h.base (by simp)).cell (i := 3) rfl
        have m4 := (HG.out.2.grown h.base (by simp)).cell (i := 4) rfl
        have m5 := (HG.out.2.grown h.base (by simp)).cell (i := 5) rfl
        have m6 := (HG.out.2.grown h.base (by simp)).cell (i := 6) rfl
        refine ⟨vV s cl sq a1 n1 c1 g a2 n2 c2 a3 n3 c3, w, wants_none rfl, ?_, gb_refl _ _, rfl⟩
        clear h
        simp only [execOp, Act.eval, e1]
        go_simp
      refine ⟨Fg.cT rfl (by decide) fun ac w h => ?_, ?_⟩
      · have e7 : ac.tmps.getD 7 undef = vV s cl sq a1 n1 c1 g a2 n2 c2 a3 n3 c3 := h.dep 7 (by kernel_rfl)
        refine ⟨33, #[vV s cl sq a1 n1 c1 g a2 n2 c2 a3 n3 c3], wants_none rfl, Fg.run_call rfl rfl (by simp only [List.map_toArray, List.map_cons, List.map_nil, Act.eval, e7]) (Fg.run_enter Tryz.func33 (by kernel_rfl) (by kernel_rfl)), ?_⟩
        exact (HT.out w (gb_trans HG.out.1 h.base)).mono fun _ _ ⟨_, _, he, hg, hb⟩ => ⟨_, he, hg, _, _, _, rfl, hb⟩
      refine ⟨Fg.vT rfl (by decide) fun ac w h => ?_, ?_⟩
      · have e1 : ac.tmps.getD 1 undef = Value.pointer (some ⟨N, 0, none⟩) := h.rest 1 (by kernel_rfl)
        refine ⟨Value.pointer (some ⟨N, 6, none⟩), w, wants_none rfl, ?_, gb_refl _ _, rfl⟩
        clear h
        simp only [execOp, Act.eval, e1]
        go_simp
      refine ⟨Fg.vT rfl (by decide) fun ac w h => ?_, ?_⟩
      · have e9 : ac.tmps.getD 9 undef = Value.pointer (some ⟨N, 6, none⟩) := h.dep 9 (by kernel_rfl)
        have c := (HG.out.2.grown h.base (by simp)).cell (i := 6) rfl
        refine ⟨Value.slice a3 n3 c3, w, wants_none rfl, ?_, gb_refl _ _, rfl⟩
        clear h
        simp only [execOp, Act.eval, e9]
        go_simp
      refine ⟨Fg.vT rfl (by decide) fun ac w h => ?_, ?_⟩
      · obtain ⟨a8, k8, B8, e8, b8⟩ : ∃ x c B, ac.tmps.getD 8 undef = .slice x T.length c ∧ BytesAt w B x c T := h.dep 8 (by kernel_rfl)
        have e10 : ac.tmps.getD 10 undef = Value.slice a3 n3 c3 := h.dep 10 (by kernel_rfl)
        have hbx : RowsAt (w.alloc (.cells #[.slice a8 T.length k8, .slice a3 n3 c3] 23)) (w.heap.size + 1) (some ⟨w.heap.size, 0, none⟩) [T, sig] := by
          rw [← HSG.out.2]
          exact rows_box _ [(a8, k8, T), (a3, c3, sig)] (fun p hp => by
            simp only [List.mem_cons, List.not_mem_nil, or_false] at hp
            rcases hp with rfl | rfl
            · exact ⟨_, b8⟩
            · exact ⟨_, HSG.out.1.stay (gb_trans HG.out.1 h.base)⟩)
        refine ⟨.slice (some ⟨w.heap.size, 0, none⟩) 2 2, w.alloc (.cells #[.slice a8 T.length k8, .slice a3 n3 c3] 23), wants_none rfl, ?_, gb_alloc (gb_refl _ _) _, ⟨_, 2, _, rfl, hbx⟩⟩
        clear h
        simp only [execOp, Act.eval, e8, e10, List.map_toArray, List.map_cons, List.map_nil]
        go_simp
      refine ⟨Fg.cT rfl (by decide) fun ac w h => ?_, ?_⟩
      · obtain ⟨a11, k11, B11, e11, b11⟩ : ∃ x c B, ac.tmps.getD 11 undef = .slice x [T, sig].length c ∧ RowsAt w B x [T, sig] := h.dep 11 (by kernel_rfl)
        refine ⟨10, #[Value.slice a11 [T, sig].length k11], wants_none rfl, Fg.run_call rfl rfl (by simp only [List.map_toArray, List.map_cons, List.map_nil, Act.eval, e11]) (Fg.run_enter Tryz.func10 (by kernel_rfl) (by kernel_rfl)), ?_⟩
        exact (join_any 2 k11 B11 [T, sig] a11 w rfl b11 (by simp) HL.out.1).mono fun _ _ ⟨_, he, hg, ho⟩ => ⟨_, he, hg, own_down ho h.base.size⟩
      refine ⟨Fg.vT rfl (by decide) fun ac w h => ?_, ?_⟩
      · obtain ⟨v12, e12, b12⟩ : ∃ v, ac.tmps.getD 12 undef = v ∧ w.ownsRow w1.heap.size 5 1 v [T, sig].flatten.length ([T, sig].flatten.map u8N) := ⟨_, rfl, h.dep 12 (by kernel_rfl)⟩
        exact ⟨_, w, wants_none rfl, Fg.run_assign rfl e12, gb_refl _ _, b12⟩
      refine ⟨Fg.vT rfl (by decide) fun ac w h => ?_, ?_⟩
      · refine ⟨Value.int .i64 0, w, wants_none rfl, ?_, gb_refl _ _, rfl⟩
        clear h
        simp only [execOp, Act.eval]
        go_simp
      trivial
    · intro aq wq hB hsz hdf hrest hslots hpt
      obtain ⟨u0, e0⟩ : ∃ u, aq.tmps.getD 0 undef = u := ⟨_, rfl⟩
      obtain ⟨v2, e2, b2⟩ : ∃ v, aq.tmps.getD 2 undef = v ∧ wq.ownsRow w1.heap.size 5 1 v [T, sig].flatten.length ([T, sig].flatten.map u8N) := ⟨_, rfl, hslots 2 (by kernel_rfl)⟩
      have e3 : aq.tmps.getD 3 undef = Value.int .i64 0 := hslots 3 (by kernel_rfl)
      obtain ⟨u4, e4⟩ : ∃ u, aq.tmps.getD 4 undef = u := ⟨_, rfl⟩
      obtain ⟨u5, e5⟩ : ∃ u, aq.tmps.getD 5 undef = u := ⟨_, rfl⟩
      obtain ⟨u6, e6⟩ : ∃ u, aq.tmps.getD 6 undef = u := ⟨_, rfl⟩
      obtain ⟨u7, e7⟩ : ∃ u, aq.tmps.getD 7 undef = u := ⟨_, rfl⟩
      obtain ⟨u8, e8⟩ : ∃ u, aq.tmps.getD 8 undef = u := ⟨_, rfl⟩
      obtain ⟨u9, e9⟩ : ∃ u, aq.tmps.getD 9 undef = u := ⟨_, rfl⟩
      obtain ⟨u10, e10⟩ : ∃ u, aq.tmps.getD 10 undef = u := ⟨_, rfl⟩
      obtain ⟨u11, e11⟩ : ∃ u, aq.tmps.getD 11 undef = u := ⟨_, rfl⟩
      obtain ⟨u12, e12⟩ : ∃ u, aq.tmps.getD 12 undef = u := ⟨_, rfl⟩
      obtain rfl := Fg.frame_is (a := aq) (vs := [u0, Value.pointer (some ⟨N, 0, none⟩), v2, Value.int .i64 0, u4, u5, u6, u7, u8, u9, u10, u11, u12]) hsz ⟨e0, hrest 1 (by kernel_rfl), e2, e3, e4, e5, e6, e7, e8, e9, e10, e11, e12, trivial⟩ hdf
      clear hsz hdf hrest hslots hpt e0 e2 e3 e4 e5 e6 e7 e8 e9 e10 e11 e12
      have HR := Lib.hid (HQ.out wq v2 (gb_trans HG.out.1 hB) (own_down b2 HG.out.1.size))
      clear b2 hB
      refine wpList_nil ?_
      go_wp2
      exact HR.out
theorem rput_any (r : R) (B : Nat) (w : World) (q : L) (h : RAt w B q r) : Calls Tryz.prog 34 #[q.v r] w (POut w (putO r) (errN (rightB r) 4)) := by
  have hb : ∀ i, (putO r).getD i 0 < 256 := by
    unfold putO
    cases hr : rightB r with
    | false => simp
    | true =>
      simp only [rightB, Bool.and_eq_true] at hr
      exact app_byte (text_small h hr.1).2 h.sig.byte
  refine (rput_own r B w q h).mono fun e w' ⟨v, he, hg, ho⟩ => ?_
  obtain ⟨a, c, rfl, _, hB, _⟩ := own_slice ho hb
  exact ⟨a, c, he, hg, hB⟩
end Rc
end Go.Proofs.YtohcoihdijemfaaGreat

/- The document's Number, Bytes, Join (buttressref06). -/
namespace Go.Proofs.YtohcoihdijemfaaGreat
open Go.RowKit Ow Wi
theorem encN_take (n : Int) (k : Nat) (h : k < 8) : (encN n).take (k + 1) = (encN n).take k ++ [ofI n / 2 ^ (8 * (7 - k)) % 256] := by
  have hl : k < (encN n).length := by rw [encN_length]; exact h
  rw [List.take_succ_eq_append_getElem hl]
  congr 2
  simp [encN, encW]
set_option maxRecDepth 100000 in
set_option maxHeartbeats 2000000 in
theorem refNumber_any (n : Int) (w : World) : Calls Tryz.prog 12 #[.int .i64 n] w fun e w' => ∃ v, e = .returned v ∧ w.grownBy w' none ∧ w'.ownsRow w.heap.size 5 1 v 8 ((encN n).map u8N) := by
  have hw : IntKind.u64.wrap n = (ofI n : Nat) := by
    rw [show IntKind.u64.wrap n = n % 18446744073709551616 by simp [IntKind.wrap, IntKind.signed, IntKind.bits]]
    unfold ofI
    omega
  obtain ⟨m, hm⟩ : ∃ m, m = ofI n := ⟨_, rfl⟩
  rw [← hm] at hw
  have HM := Lib.hid hm; clear hm
  go_enter Tryz.func12, Tryz.ntmps12
  go_wp2_with fail
  go_loopw [3, 4] (fun v i wr => ∃ (k : Nat) (vr : Value), k ≤ 8 ∧ i = .int .i64 (7 - (k : Int)) ∧ vr = v ∧ Hid (w.grownBy wr none ∧ wr.ownsRow w.heap.size 5 1 vr k (((encN n).take k).map u8N))) (fun _ i _ => (intOf i + 1).toNat)
  case atStart => exact ⟨0, _, by decide, rfl, rfl, gb_refl _ _, World.ownsRow_nil w _ _ 1⟩
  case round =>
    obtain ⟨k, vr, hk, rfl, rfl, HI⟩ := hrel
    by_cases hlt : k < 8
    · obtain ⟨j, hj⟩ : ∃ j : Nat, j = 7 - k := ⟨_, rfl⟩
      have e7 : (7 : Int) - (k : Int) = (j : Int) := by omega
      rw [e7]
      have i0 : (0 : Int) ≤ (j : Int) := by omega
      have i1 : (j : Int) ≤ 7 := by omega
      obtain ⟨v2, w2, hap, ho2, hg2⟩ := append1_u8 wr w.heap.size k vr (.int .u8 ((m : Int) / 2 ^ (8 * (7 - k)) % 256)) _ HI.out.2 rfl (by omega) HI.out.1.size
      have hg3 := own_gb HI.out.1 HI.out.2 hg2
      have hv : [Value.int .u8 ((m : Int) / 2 ^ (8 * (7 - k)) % 256)] = [u8N (ofI n / 2 ^ (8 * (7 - k)) % 256)] := by
        rw [HM.out]; unfold u8N; simp
      rw [hv, ← List.map_singleton, ← List.map_append, ← encN_take n k hlt] at ho2
      have HN := Lib.hid (And.intro hg3 ho2)
      have HA := Lib.hid hap
      clear hg2 hg3 hv ho2 hap HI
      go_wp2_with (at_builtin; refine wpList_append_run rfl (.tmp 9) (.tmp 17) 23 rfl rfl _ _ rfl rfl _ _ HA.out ?_)
      go_roundw
      case rel => exact ⟨k + 1, v2, by omega, by congr 1; omega, rfl, HN.out⟩
      case measure => simp [intOf]; omega
    · obtain rfl : k = 8 := by omega
      have HI2 := HI.out.2
      rw [show (encN n).take 8 = encN n from by rw [← encN_length n]; exact List.take_length] at HI2
      have HN := Lib.hid (And.intro HI.out.1 HI2)
      clear HI HI2
      go_wp2
      go_ret
      exact ⟨vr, rfl, HN.out⟩
theorem refNumber_out (n : Int) (w : World) : Calls Tryz.prog 12 #[.int .i64 n] w (YOut w (encN n)) :=
  (refNumber_any n w).mono fun _ _ ⟨_, he, hg, ho⟩ => he ▸ bout_own hg ho (encN_length n) (encN_byte n)
set_option maxHeartbeats 2000000 in
theorem refBytes_out (n : Nat) (l : List Nat) (a : Option Addr) (cap B : Nat) (w : World) (hn : l.length = n) (h : BytesAt w B a cap l) (hl : l.length ≤ 900000) : Calls Tryz.prog 15 #[.slice a n cap] w (YOut w (encN (l.length : Int) ++ l)) := by
  subst hn
  have HN := Lib.hid (refNumber_any (l.length : Int) w)
  have HH := Lib.hid (And.intro h hl)
  obtain ⟨Q, hQ⟩ : ∃ Q, Q = YOut w (encN (l.length : Int) ++ l) := ⟨_, rfl⟩
  rw [← hQ]
  have HQ := Lib.hid hQ; clear hQ h hl
  go_enter Tryz.func15, Tryz.ntmps15
  go_wp2_with fail
  refine HN.out.mono ?_
  rintro e w1 ⟨v1, rfl, hg, ho⟩
  obtain ⟨v2, w2, hap, ho2, hg2⟩ := append_bytes w1 w.heap.size 8 B cap l.length v1 _ a l ho rfl (HH.out.1.stay hg) (by have := HH.out.2; omega) hg.size
  have hg3 := own_gb hg ho hg2
  rw [← List.map_append] at ho2
  have HR := Lib.hid (bout_own hg3 ho2 (by rw [List.length_append, encN_length]) (app_byte (encN_byte _) HH.out.1.byte))
  have HA := Lib.hid hap
  clear hg ho hap ho2 hg2 hg3 HN
  generalize l.length = m at *
  go_wp2_with (at_builtin; refine wpList_append_run rfl (.tmp 5) (.tmp 6) 23 rfl rfl _ _ rfl rfl _ _ HA.out ?_)
  rw [HQ.out]
  exact HR.out
set_option maxRecDepth 100000 in
set_option maxHeartbeats 2000000 in
theorem refJoin_own (n : Nat) (L : List (List Nat)) (a : Option Addr) (cap B : Nat) (w : World) (hn : L.length = n) (h : RowsAt w B a L) (hm : L.length < 9223372036854775808) (hl : L.flatten.length ≤ 1000000) (hb : ∀ l ∈ L, ∀ i, l.getD i 0 < 256) : Calls Tryz.prog 13 #[.slice a n cap] w (fun e w' => ∃ v, e = .returned v ∧ w.grownBy w' none ∧ w'.ownsRow w.heap.size 5 1 v L.flatten.length (L.flatten.map u8N)) := by
  have hn63 : n < 9223372036854775808 := by omega
  clear hm
  have HR := Lib.hid h; clear h
  have HL := Lib.hid (And.intro hl hb); clear hl hb
  have HM := Lib.hid hn; clear hn
  obtain ⟨Q, hQ⟩ : ∃ Q : Ending → World → Prop, Q = (fun e w' => ∃ v, e = .returned v ∧ w.grownBy w' none ∧ w'.ownsRow w.heap.size 5 1 v L.flatten.length (L.flatten.map u8N)) := ⟨_, rfl⟩
  rw [← hQ]
  have HQ := Lib.hid hQ; clear hQ
  go_enter Tryz.func13, Tryz.ntmps13
  go_wp2_with fail
  go_loopw [3, 4] (fun v i wr => ∃ (q : Nat) (u : Value), q ≤ n ∧ i = .int .i64 q ∧ u = v ∧ Hid (w.grownBy wr none ∧ wr.ownsRow w.heap.size 5 1 u (L.take q).flatten.length ((L.take q).flatten.map u8N))) (fun _ i _ => n - (intOf i).toNat)
  case atStart => exact ⟨0, _, by omega, rfl, rfl, gb_refl _ _, World.ownsRow_nil w _ _ 1⟩
  case round =>
    obtain ⟨q, vr, hq, rfl, rfl, HI⟩ := hrel
    by_cases hlt : q < n
    · obtain ⟨pb, po, ai, ci, rfl, hpb, k1, hB⟩ := HR.out.at (i := q) (by rw [HM.out]; exact hlt)
      have i0 : (q : Int) < (n : Int) := by omega
      have hN := flat_take L q (by rw [HM.out]; exact hlt)
      have hle := flat_le L (q + 1)
      have h6 := HL.out.1
      have hB2 := hB.stay HI.out.1
      have k2 : wr.cell? ⟨pb, po + q, none⟩ = some (.slice ai (L.getD q []).length ci) := by
        rw [gb_cell HI.out.1 (p := ⟨pb, po + q, none⟩) (Nat.lt_of_lt_of_le hpb HR.out.lim) (by simp)]; exact k1
      obtain ⟨v2, w2, hap, ho2, hg2⟩ := append_bytes wr w.heap.size _ B ci _ vr _ ai (L.getD q []) HI.out.2 rfl hB2 (by rw [hN, List.length_append] at hle; omega) HI.out.1.size
      have HN := Lib.hid (And.intro hN (And.intro ho2 (own_gb HI.out.1 HI.out.2 hg2)))
      have HA := Lib.hid hap
      clear hN hle h6 hB hB2 k1 ho2 hg2 hap HI
      obtain ⟨t, ht⟩ : ∃ t, t = (L.getD q []).length := ⟨_, rfl⟩
      rw [← ht] at HA k2
      have HT := Lib.hid ht; clear ht
      go_wp2_with (at_builtin; refine wpList_append_run rfl (.tmp 11) (.tmp 15) 23 rfl rfl _ _ rfl rfl _ _ HA.out ?_)
      go_roundw
      case rel => exact ⟨q + 1, v2, by omega, by go_num, rfl, HN.out.2.2, by rw [HN.out.1, List.length_append, List.map_append]; exact HN.out.2.1⟩
      case measure => simp [intOf]; omega
    · obtain rfl : q = n := by omega
      have e0 : L.take q = L := by rw [← HM.out]; exact List.take_length
      have hI := HI.out
      rw [e0] at hI
      have HF := Lib.hid hI
      clear hI HI e0
      go_wp2
      rw [HQ.out]
      exact ⟨_, rfl, HF.out.1, HF.out.2⟩
theorem refJoin_out (n : Nat) (L : List (List Nat)) (a : Option Addr) (cap B : Nat) (w : World) (hn : L.length = n) (h : RowsAt w B a L) (hm : L.length < 9223372036854775808) (hl : L.flatten.length ≤ 1000000) (hb : ∀ l ∈ L, ∀ i, l.getD i 0 < 256) : Calls Tryz.prog 13 #[.slice a n cap] w (YOut w L.flatten) :=
  (refJoin_own n L a cap B w hn h hm hl hb).mono fun _ _ ⟨_, he, hg, ho⟩ => he ▸ bout_own hg ho rfl (flat_byte hb)
end Go.Proofs.YtohcoihdijemfaaGreat

/- The document's answers (buttressref07): Dot, Right, up, Has, Covers. -/
namespace Go.Proofs.YtohcoihdijemfaaGreat
open Go.RowKit Ve
namespace Ve
def BOut (w : World) (b : Bool) (e : Ending) (w' : World) : Prop := e = .returned (.bool b) ∧ w.grownBy w' none
set_option maxHeartbeats 400000 in
theorem refDot_any (b : Bool) (x y : Int) (w : World) (hb : okD (x, y) = b) :
    Calls Tryz.prog 104 #[.agg #[iV x, iV y]] w (BOut w b) := by
  have hO : BOut w b (.returned (.bool b)) (w.alloc (.cells #[iV x, iV y] 99)) := ⟨rfl, gb_alloc (gb_refl _ _) _⟩
  generalize BOut w b = Q at hO ⊢
  have HO := Lib.hid hO; clear hO
  unfold okD at hb
  by_cases h1 : 1 ≤ x
  · by_cases h2 : x ≤ 8
    · by_cases h3 : 1 ≤ y
      · by_cases h4 : y ≤ 1073741824
        · obtain rfl : b = true := by rw [← hb]; simp; omega
          clear hb
          go_enter Tryz.func104, Tryz.ntmps104
          go_wp2
          exact HO.out
        · obtain rfl : b = false := by rw [← hb]; simp; omega
          clear hb
          go_enter Tryz.func104, Tryz.ntmps104
          go_wp2
          exact HO.out
      · obtain rfl : b = false := by rw [← hb]; simp; omega
        clear hb
        go_enter Tryz.func104, Tryz.ntmps104
        go_wp2
        exact HO.out
    · obtain rfl : b = false := by rw [← hb]; simp; omega
      clear hb
      go_enter Tryz.func104, Tryz.ntmps104
      go_wp2
      exact HO.out
  · obtain rfl : b = false := by rw [← hb]; simp; omega
    clear hb
    go_enter Tryz.func104, Tryz.ntmps104
    go_wp2
    exact HO.out
set_option maxHeartbeats 400000 in
theorem refUp_any (B n cap : Nat) (a : Option Addr) (l : List D) (c : Int) (w : World) (hn : l.length = n) (h : DotsAt w B a l) (hc : n < 9223372036854775808) :
    Calls Tryz.prog 107 #[.slice a n cap, .int .i64 c] w fun e w' => e = .returned (.int .i64 (up l c)) ∧ w = w' := by
  have H := Lib.hid h; clear h
  have HN := Lib.hid hn; clear hn
  obtain ⟨R, hR⟩ : ∃ R, R = up l c := ⟨_, rfl⟩
  rw [← hR]
  have HR : Hid (R = up (l.drop 0) c) := hR
  clear hR
  go_enter Tryz.func107, Tryz.ntmps107
  go_wp2
  go_loop [5] (fun i => ∃ k : Nat, k ≤ n ∧ i = .int .i64 k ∧ Hid (R = up (l.drop k) c)) (fun i => n - (intOf i).toNat)
  case atStart => exact ⟨0, by omega, rfl, HR.out⟩
  case round =>
    obtain ⟨k, hk, rfl, HI⟩ := hrel
    by_cases hlt : k < n
    · obtain ⟨pb, po, rfl, hpb, hcs⟩ := H.out.cells.resolve_left (by rw [HN.out]; omega)
      obtain ⟨k1, k2⟩ := hcs k (by rw [HN.out]; exact hlt)
      clear hcs
      have hd := drop_at l k (by rw [HN.out]; exact hlt)
      obtain ⟨x, y, hxy⟩ : ∃ x y, l.getD k z0 = (x, y) := ⟨_, _, rfl⟩
      rw [hxy] at k1 k2 hd
      simp only at k1 k2
      have hi : (k : Int) < (n : Int) := by omega
      have hr : R = if x = c then y else up (l.drop (k + 1)) c := by rw [HI.out, hd, up]
      clear hd hxy
      by_cases hx : x = c
      · rw [if_pos hx] at hr
        have hxb : (x == c) = true := by simpa using hx
        have HR2 := Lib.hid hr; clear hr hx
        go_wp2
        go_ret
        exact ⟨by rw [HR2.out]; rfl, rfl⟩
      · rw [if_neg hx] at hr
        have hxb : (x == c) = false := by simpa using hx
        have HR2 := Lib.hid hr; clear hr hx
        go_wp2
        go_round
        case rel => exact ⟨k + 1, by omega, by go_num, HR2.out⟩
        case measure => simp [intOf]; omega
    · obtain rfl : k = n := by omega
      have hr : R = 0 := by rw [HI.out, drop_end l k (by rw [HN.out]; omega)]; rfl
      have HR2 := Lib.hid hr; clear hr
      go_wp2
      go_ret
      exact ⟨by rw [HR2.out]; rfl, rfl⟩
/-- the client ahead of place k -/
def pv (l : List D) (k : Nat) : Int := if k = 0 then 0 else (l.getD (k - 1) z0).1
set_option maxHeartbeats 1000000 in
theorem refRight_any (B n cap : Nat) (a : Option Addr) (l : List D) (w : World) (hn : l.length = n) (h : DotsAt w B a l) (hc : n < 9223372036854775808) :
    Calls Tryz.prog 105 #[.slice a n cap] w fun e w' => e = .returned (.bool (rtB 0 l)) ∧ w.grownBy w' none := by
  have H := Lib.hid h; clear h
  have HN := Lib.hid hn; clear hn
  obtain ⟨R, hR⟩ : ∃ R, R = rtB 0 l := ⟨_, rfl⟩
  rw [← hR]
  have HR : Hid (0 ≤ pv l 0 ∧ R = rtB (pv l 0) (l.drop 0)) := ⟨Int.le_refl _, hR⟩
  clear hR
  go_enter Tryz.func105, Tryz.ntmps105
  go_wp2
  go_loopw [3] (fun i wr => ∃ k : Nat, k ≤ n ∧ i = .int .i64 k ∧ Hid (w.grownBy wr none ∧ 0 ≤ pv l k ∧ R = rtB (pv l k) (l.drop k))) (fun i _ => n - (intOf i).toNat)
  case atStart => exact ⟨0, by omega, rfl, gb_refl _ _, HR.out⟩
  case round =>
    obtain ⟨k, hk, rfl, HI⟩ := hrel
    by_cases hlt : k < n
    · obtain ⟨pb, po, rfl, hpb, hcs⟩ := (H.out.stay HI.out.1).cells.resolve_left (by rw [HN.out]; omega)
      obtain ⟨k1, k2⟩ := hcs k (by rw [HN.out]; exact hlt)
      have hd := drop_at l k (by rw [HN.out]; exact hlt)
      obtain ⟨x, y, hxy⟩ : ∃ x y, l.getD k z0 = (x, y) := ⟨_, _, rfl⟩
      rw [hxy] at k1 k2 hd
      simp only at k1 k2
      have hi : (k : Int) < (n : Int) := by omega
      have hpn : pv l (k + 1) = x := by unfold pv; rw [if_neg (by omega), Nat.add_sub_cancel, hxy]
      have hrn : R = ((decide (pv l k < x) && decide (x ≤ 8) && decide (1 ≤ y) && decide (y ≤ 1073741824)) && rtB (pv l (k + 1)) (l.drop (k + 1))) := by rw [HI.out.2.2, hd, rtB, hpn]
      have HX := Lib.hid (And.intro hrn hpn); clear hd hxy hrn hpn
      have HK1 : Hid (∀ {w' : World}, wr.grownBy w' none → w'.cell? ⟨pb, po + k * 2, none⟩ = some (iV x) ∧ w'.cell? ⟨pb, po + k * 2 + 1, none⟩ = some (iV y)) := fun {w'} hg => ⟨by rw [gb_cell hg (block_lt_of_cell k1) (by simp)]; exact k1, by rw [gb_cell hg (block_lt_of_cell k2) (by simp)]; exact k2⟩
      by_cases hok : okD (x, y) = true
      · have hD := Lib.hid (fun W => refDot_any true x y W hok)
        have hokk : 1 ≤ x ∧ x ≤ 8 ∧ 1 ≤ y ∧ y ≤ 1073741824 := by simpa [okD, and_assoc] using hok
        have HOK := Lib.hid hokk; clear hok hokk
        by_cases hk0 : k = 0
        · clear hcs
          have hr : R = rtB (pv l (k + 1)) (l.drop (k + 1)) ∧ 0 ≤ pv l (k + 1) := by
            have h0 : pv l k = 0 := by unfold pv; rw [if_pos hk0]
            obtain ⟨o1, o2, o3, o4⟩ := HOK.out
            have e := HX.out.1
            rw [h0, decide_eq_true (show (0 : Int) < x by omega), decide_eq_true o2, decide_eq_true o3, decide_eq_true o4] at e
            exact ⟨by simpa using e, by rw [HX.out.2]; omega⟩
          have HRR := Lib.hid hr; clear hr
          have b1 : decide (0 < k) = false := decide_eq_false (by omega)
          have b2 : decide ((0 : Int) < (k : Int)) = false := decide_eq_false (by omega)
          have HK0 := Lib.hid hk0; clear hk0
          go_wp2_with fail
          refine wp_region_flow3 (Fg.its [.any, .any, .any, .any, .any, .any, .any, .any, .any, .any, .val (.slice (some ⟨pb, po, none⟩) n cap), .val (.int .i64 (k : Int)), .val (.pointer (some ⟨pb, po + k * 2, none⟩)), .val (.agg #[iV x, iV y]), .val (.bool true), .val (.bool false), .val (.bool false), .val (.int .i64 (k : Int)), .val (.bool false), .val (.bool false), .val undef, .val undef, .val undef, .val undef, .val undef, .val undef, .val undef, .val undef, .val undef, .val undef, .val undef, .val undef, .val (.bool false), .val (.bool false)]) (fun _ => 0) (fun _ _ _ => True) (fun w => World.grownBy wr w none) [] (by kernel_rfl) (by kernel_rfl) (by kernel_rfl) (gb_drew (gb_refl _ _)) (Fg.ptrs_nil _ _) (Fg.no_store (by kernel_rfl)) ?_ ?_
          · refine ⟨Fg.value rfl fun ac w h => ?_, ?_⟩
            · have e0 : ac.tmps.getD 0 undef = .slice (some ⟨pb, po, none⟩) n cap := h.rest 0 (by kernel_rfl)
              refine ⟨wants_none rfl, .slice (some ⟨pb, po, none⟩) n cap, w, ?_, gb_refl _ _, rfl⟩
              clear h
              simp only [execOp, Act.eval, e0]
              go_simp
            refine ⟨Fg.value rfl fun ac w h => ?_, ?_⟩
            · have e3 : ac.tmps.getD 3 undef = .int .i64 (k : Int) := h.rest 3 (by kernel_rfl)
              refine ⟨wants_none rfl, .int .i64 (k : Int), w, ?_, gb_refl _ _, rfl⟩
              clear h
              simp only [execOp, Act.eval, e3]
              go_simp
            refine ⟨Fg.value rfl fun ac w h => ?_, ?_⟩
            · have e10 : ac.tmps.getD 10 undef = .slice (some ⟨pb, po, none⟩) n cap := h.dep 10 (by kernel_rfl)
              have e11 : ac.tmps.getD 11 undef = .int .i64 (k : Int) := h.dep 11 (by kernel_rfl)
              refine ⟨wants_none rfl, .pointer (some ⟨pb, po + k * 2, none⟩), w, ?_, gb_refl _ _, rfl⟩
              clear h
              simp only [execOp, Act.eval, e10, e11]
              go_simp
            refine ⟨Fg.value rfl fun ac w h => ?_, ?_⟩
            · have e12 : ac.tmps.getD 12 undef = .pointer (some ⟨pb, po + k * 2, none⟩) := h.dep 12 (by kernel_rfl)
              have c1 := (HK1.out h.base).1
              have c2 := (HK1.out h.base).2
              refine ⟨wants_none rfl, .agg #[iV x, iV y], w, ?_, gb_refl _ _, rfl⟩
              clear h
              simp only [execOp, Act.eval, e12]
              go_simp
            refine ⟨Fg.call rfl fun ac w h => ?_, ?_⟩
            · have e13 : ac.tmps.getD 13 undef = .agg #[iV x, iV y] := h.dep 13 (by kernel_rfl)
              have x13 : ac.tmps[13]?.getD undef = .agg #[iV x, iV y] := by simpa using e13
              have hb := h.base
              refine ⟨wants_none rfl, 104, #[.agg #[iV x, iV y]], ?_, ?_⟩
              · clear h hb e13
                go_simp
              · refine (hD.out w).mono ?_
                intro e w1 hp
                obtain ⟨rfl, hg⟩ := hp
                exact ⟨_, rfl, hg, rfl⟩
            refine ⟨Fg.value rfl fun ac w h => ?_, ?_⟩
            · have e14 : ac.tmps.getD 14 undef = .bool true := h.dep 14 (by kernel_rfl)
              refine ⟨wants_none rfl, .bool false, w, ?_, gb_refl _ _, rfl⟩
              clear h
              simp only [execOp, Act.eval, e14]
              go_simp
            refine ⟨Fg.value rfl fun ac w h => ?_, ?_⟩
            · have e15 : ac.tmps.getD 15 undef = .bool false := h.dep 15 (by kernel_rfl)
              refine ⟨wants_none rfl, .bool false, w, ?_, gb_refl _ _, rfl⟩
              clear h
              simp only [execOp, Act.eval, e15]
              go_simp
            refine ⟨Fg.value rfl fun ac w h => ?_, ?_⟩
            · have e16 : ac.tmps.getD 16 undef = .bool false := h.dep 16 (by kernel_rfl)
              have e3 : ac.tmps.getD 3 undef = .int .i64 (k : Int) := h.rest 3 (by kernel_rfl)
              refine ⟨wants_some (d := 16) rfl rfl (by rw [h.size]; show 16 < 34; decide) e16, .int .i64 (k : Int), w, ?_, gb_refl _ _, rfl⟩
              clear h
              simp only [execOp, Act.eval, e3]
              go_simp
            refine ⟨Fg.value rfl fun ac w h => ?_, ?_⟩
            · have e16 : ac.tmps.getD 16 undef = .bool false := h.dep 16 (by kernel_rfl)
              have e17 : ac.tmps.getD 17 undef = .int .i64 (k : Int) := h.dep 17 (by kernel_rfl)
              refine ⟨wants_some (d := 16) rfl rfl (by rw [h.size]; show 16 < 34; decide) e16, .bool false, w, ?_, gb_refl _ _, rfl⟩
              clear h
              simp only [execOp, Act.eval, e17]
              go_simp
            refine ⟨Fg.value rfl fun ac w h => ?_, ?_⟩
            · have e16 : ac.tmps.getD 16 undef = .bool false := h.dep 16 (by kernel_rfl)
              have e18 : ac.tmps.getD 18 undef = .bool false := h.dep 18 (by kernel_rfl)
              refine ⟨wants_some (d := 16) rfl rfl (by rw [h.size]; show 16 < 34; decide) e16, .bool false, w, ?_, gb_refl _ _, rfl⟩
              clear h
              simp only [execOp, Act.eval, e18]
              go_simp
            refine ⟨Fg.skipped rfl (fun _ => rfl) fun ac w h => ?_, ?_⟩
            · have e19 : ac.tmps.getD 19 undef = .bool false := h.dep 19 (by kernel_rfl)
              exact not_wants (d := 19) rfl rfl (by rw [h.size]; show 19 < 34; decide) e19 (by decide)
            refine ⟨Fg.skipped rfl (fun _ => rfl) fun ac w h => ?_, ?_⟩
            · have e19 : ac.tmps.getD 19 undef = .bool false := h.dep 19 (by kernel_rfl)
              exact not_wants (d := 19) rfl rfl (by rw [h.size]; show 19 < 34; decide) e19 (by decide)
            refine ⟨Fg.skipped rfl (fun _ => rfl) fun ac w h => ?_, ?_⟩
            · have e19 : ac.tmps.getD 19 undef = .bool false := h.dep 19 (by kernel_rfl)
              exact not_wants (d := 19) rfl rfl (by rw [h.size]; show 19 < 34; decide) e19 (by decide)
            refine ⟨Fg.skipped rfl (fun _ => rfl) fun ac w h => ?_, ?_⟩
            · have e19 : ac.tmps.getD 19 undef = .bool false := h.dep 19 (by kernel_rfl)
              exact not_wants (d := 19) rfl rfl (by rw [h.size]; show 19 < 34; decide) e19 (by decide)
            refine ⟨Fg.skipped rfl (fun _ => rfl) fun ac w h => ?_, ?_⟩
            · have e19 : ac.tmps.getD 19 undef = .bool false := h.dep 19 (by kernel_rfl)
              exact not_wants (d := 19) rfl rfl (by rw [h.size]; show 19 < 34; decide) e19 (by decide)
            refine ⟨Fg.skipped rfl (fun _ => rfl) fun ac w h => ?_, ?_⟩
            · have e19 : ac.tmps.getD 19 undef = .bool false := h.dep 19 (by kernel_rfl)
              exact not_wants (d := 19) rfl rfl (by rw [h.size]; show 19 < 34; decide) e19 (by decide)
            refine ⟨Fg.skipped rfl (fun _ => rfl) fun ac w h => ?_, ?_⟩
            · have e19 : ac.tmps.getD 19 undef = .bool false := h.dep 19 (by kernel_rfl)
              exact not_wants (d := 19) rfl rfl (by rw [h.size]; show 19 < 34; decide) e19 (by decide)
            refine ⟨Fg.skipped rfl (fun _ => rfl) fun ac w h => ?_, ?_⟩
            · have e19 : ac.tmps.getD 19 undef = .bool false := h.dep 19 (by kernel_rfl)
              exact not_wants (d := 19) rfl rfl (by rw [h.size]; show 19 < 34; decide) e19 (by decide)
            refine ⟨Fg.skipped rfl (fun _ => rfl) fun ac w h => ?_, ?_⟩
            · have e19 : ac.tmps.getD 19 undef = .bool false := h.dep 19 (by kernel_rfl)
              exact not_wants (d := 19) rfl rfl (by rw [h.size]; show 19 < 34; decide) e19 (by decide)
            refine ⟨Fg.skipped rfl (fun _ => rfl) fun ac w h => ?_, ?_⟩
            · have e19 : ac.tmps.getD 19 undef = .bool false := h.dep 19 (by kernel_rfl)
              exact not_wants (d := 19) rfl rfl (by rw [h.size]; show 19 < 34; decide) e19 (by decide)
            refine ⟨Fg.skipped rfl (fun _ => rfl) fun ac w h => ?_, ?_⟩
            · have e19 : ac.tmps.getD 19 undef = .bool false := h.dep 19 (by kernel_rfl)
              exact not_wants (d := 19) rfl rfl (by rw [h.size]; show 19 < 34; decide) e19 (by decide)
            refine ⟨Fg.skipped rfl (fun _ => rfl) fun ac w h => ?_, ?_⟩
            · have e19 : ac.tmps.getD 19 undef = .bool false := h.dep 19 (by kernel_rfl)
              exact not_wants (d := 19) rfl rfl (by rw [h.size]; show 19 < 34; decide) e19 (by decide)
            refine ⟨Fg.value rfl fun ac w h => ?_, ?_⟩
            · have e16 : ac.tmps.getD 16 undef = .bool false := h.dep 16 (by kernel_rfl)
              have e19 : ac.tmps.getD 19 undef = .bool false := h.dep 19 (by kernel_rfl)
              refine ⟨wants_some (d := 16) rfl rfl (by rw [h.size]; show 16 < 34; decide) e16, .bool false, w, ?_, gb_refl _ _, rfl⟩
              clear h
              simp only [execOp, Act.eval, e19]
              go_simp
            refine ⟨Fg.value rfl fun ac w h => ?_, ?_⟩
            · have e16 : ac.tmps.getD 16 undef = .bool false := h.dep 16 (by kernel_rfl)
              have e32 : ac.tmps.getD 32 undef = .bool false := h.dep 32 (by kernel_rfl)
              refine ⟨wants_none rfl, .bool false, w, ?_, gb_refl _ _, rfl⟩
              clear h
              simp only [execOp, Act.eval, e16, e32]
              go_simp
            trivial
          · intro aq wq hB hsz hdf hrest hslots _
            obtain ⟨u10, hs10⟩ : ∃ u, aq.tmps.getD 10 undef = u := ⟨_, rfl⟩
            obtain ⟨u11, hs11⟩ : ∃ u, aq.tmps.getD 11 undef = u := ⟨_, rfl⟩
            obtain ⟨u12, hs12⟩ : ∃ u, aq.tmps.getD 12 undef = u := ⟨_, rfl⟩
            obtain ⟨u13, hs13⟩ : ∃ u, aq.tmps.getD 13 undef = u := ⟨_, rfl⟩
            obtain ⟨u14, hs14⟩ : ∃ u, aq.tmps.getD 14 undef = u := ⟨_, rfl⟩
            obtain ⟨u15, hs15⟩ : ∃ u, aq.tmps.getD 15 undef = u := ⟨_, rfl⟩
            obtain ⟨u16, hs16⟩ : ∃ u, aq.tmps.getD 16 undef = u := ⟨_, rfl⟩
            obtain ⟨u17, hs17⟩ : ∃ u, aq.tmps.getD 17 undef = u := ⟨_, rfl⟩
            obtain ⟨u18, hs18⟩ : ∃ u, aq.tmps.getD 18 undef = u := ⟨_, rfl⟩
            obtain ⟨u19, hs19⟩ : ∃ u, aq.tmps.getD 19 undef = u := ⟨_, rfl⟩
            obtain ⟨u20, hs20⟩ : ∃ u, aq.tmps.getD 20 undef = u := ⟨_, rfl⟩
            obtain ⟨u21, hs21⟩ : ∃ u, aq.tmps.getD 21 undef = u := ⟨_, rfl⟩
            obtain ⟨u22, hs22⟩ : ∃ u, aq.tmps.getD 22 undef = u := ⟨_, rfl⟩
            obtain ⟨u23, hs23⟩ : ∃ u, aq.tmps.getD 23 undef = u := ⟨_, rfl⟩
            obtain ⟨u24, hs24⟩ : ∃ u, aq.tmps.getD 24 undef = u := ⟨_, rfl⟩
            obtain ⟨u25, hs25⟩ : ∃ u, aq.tmps.getD 25 undef = u := ⟨_, rfl⟩
            obtain ⟨u26, hs26⟩ : ∃ u, aq.tmps.getD 26 undef = u := ⟨_, rfl⟩
            obtain ⟨u27, hs27⟩ : ∃ u, aq.tmps.getD 27 undef = u := ⟨_, rfl⟩
            obtain ⟨u28, hs28⟩ : ∃ u, aq.tmps.getD 28 undef = u := ⟨_, rfl⟩
            obtain ⟨u29, hs29⟩ : ∃ u, aq.tmps.getD 29 undef = u := ⟨_, rfl⟩
            obtain ⟨u30, hs30⟩ : ∃ u, aq.tmps.getD 30 undef = u := ⟨_, rfl⟩
            obtain ⟨u31, hs31⟩ : ∃ u, aq.tmps.getD 31 undef = u := ⟨_, rfl⟩
            obtain ⟨u32, hs32⟩ : ∃ u, aq.tmps.getD 32 undef = u := ⟨_, rfl⟩
            obtain rfl := Fg.frame_is (a := aq) (vs := [Value.slice (some ⟨pb, po, none⟩) n cap, undef, u2, Value.int .i64 (k : Int), Value.int .i64 (k : Int), Value.slice (some ⟨pb, po, none⟩) n cap, Value.int .i64 (n : Int), Value.bool true, u8, u9, u10, u11, u12, u13, u14, u15, u16, u17, u18, u19, u20, u21, u22, u23, u24, u25, u26, u27, u28, u29, u30, u31, u32, Value.bool false]) hsz ⟨hrest 0 (by kernel_rfl), hrest 1 (by kernel_rfl), hrest 2 (by kernel_rfl), hrest 3 (by kernel_rfl), hrest 4 (by kernel_rfl), hrest 5 (by kernel_rfl), hrest 6 (by kernel_rfl), hrest 7 (by kernel_rfl), hrest 8 (by kernel_rfl), hrest 9 (by kernel_rfl), hs10, hs11, hs12, hs13, hs14, hs15, hs16, hs17, hs18, hs19, hs20, hs21, hs22, hs23, hs24, hs25, hs26, hs27, hs28, hs29, hs30, hs31, hs32, (show aq.tmps.getD 33 undef = Value.bool false from hslots 33 (by kernel_rfl)), trivial⟩ hdf
            have hB0 := Lib.hid hB
            clear hB hsz hdf hrest hslots hs10 hs11 hs12 hs13 hs14 hs15 hs16 hs17 hs18 hs19 hs20 hs21 hs22 hs23 hs24 hs25 hs26 hs27 hs28 hs29 hs30 hs31 hs32
            go_wp2
            go_roundw
            case rel => exact ⟨k + 1, by omega, by go_num, gb_trans HI.out.1 hB0.out, HRR.out.2, HRR.out.1⟩
            case measure => simp [intOf]; omega
        · obtain ⟨q, hq⟩ : ∃ q, k = q + 1 := ⟨k - 1, by omega⟩
          obtain ⟨k3, _⟩ := hcs q (by rw [HN.out]; omega)
          clear hcs
          obtain ⟨px, hpx⟩ : ∃ px, px = (l.getD q z0).1 := ⟨_, rfl⟩
          rw [← hpx] at k3
          have hpv : pv l k = px := by unfold pv; rw [if_neg hk0, hq, Nat.add_sub_cancel, hpx]
          have b1 : decide (0 < k) = true := decide_eq_true (by omega)
          have b2 : decide ((0 : Int) < (k : Int)) = true := decide_eq_true (by omega)
          have b3 : IntKind.i64.wrap ((k : Int) - 1) = (q : Int) := by rw [IntKind.wrap_i64]; omega
          have b4 : (q : Int) < (n : Int) := by omega
          have b5 : (k : Int) - 1 = (q : Int) := by omega
          have b7 : IntKind.i64.wrap (q : Int) = (q : Int) := by rw [IntKind.wrap_i64]; omega
          have HPV := Lib.hid (And.intro hpv (And.intro hq hpx)); clear hpv hq hpx hk0
          have HK2 : Hid (∀ {w' : World}, wr.grownBy w' none → w'.cell? ⟨pb, po + k * 2, none⟩ = some (iV x) ∧ w'.cell? ⟨pb, po + q * 2, none⟩ = some (iV px)) := fun {w'} hg => ⟨by rw [gb_cell hg (block_lt_of_cell k1) (by simp)]; exact k1, by rw [gb_cell hg (block_lt_of_cell k3) (by simp)]; exact k3⟩
          by_cases hlt2 : px < x
          · have hr : R = rtB (pv l (k + 1)) (l.drop (k + 1)) ∧ 0 ≤ pv l (k + 1) := by
              obtain ⟨o1, o2, o3, o4⟩ := HOK.out
              have e := HX.out.1
              rw [HPV.out.1, decide_eq_true hlt2, decide_eq_true o2, decide_eq_true o3, decide_eq_true o4] at e
              exact ⟨by simpa using e, by rw [HX.out.2]; omega⟩
            have HRR := Lib.hid hr; clear hr
            have b6 : decide (x ≤ px) = false := decide_eq_false (by omega)
            go_wp2_with fail
            refine wp_region_flow3 (Fg.its [.any, .any, .any, .any, .any, .any, .any, .any, .any, .any, .val (.slice (some ⟨pb, po, none⟩) n cap), .val (.int .i64 (k : Int)), .val (.pointer (some ⟨pb, po + k * 2, none⟩)), .val (.agg #[iV x, iV y]), .val (.bool true), .val (.bool false), .val (.bool false), .val (.int .i64 (k : Int)), .val (.bool true), .val (.bool true), .val (.slice (some ⟨pb, po, none⟩) n cap), .val (.int .i64 (k : Int)), .val (.int .i64 (q : Int)), .val (.pointer (some ⟨pb, po + q * 2, none⟩)), .val (.pointer (some ⟨pb, po + q * 2, none⟩)), .val (iV px), .val (.slice (some ⟨pb, po, none⟩) n cap), .val (.int .i64 (k : Int)), .val (.pointer (some ⟨pb, po + k * 2, none⟩)), .val (.pointer (some ⟨pb, po + k * 2, none⟩)), .val (iV x), .val (.bool false), .val (.bool false), .val (.bool false)]) (fun _ => 0) (fun _ _ _ => True) (fun w => World.grownBy wr w none) [] (by kernel_rfl) (by kernel_rfl) (by kernel_rfl) (gb_drew (gb_refl _ _)) (Fg.ptrs_nil _ _) (Fg.no_store (by kernel_rfl)) ?_ ?_
            · refine ⟨Fg.value rfl fun ac w h => ?_, ?_⟩
              · have e0 : ac.tmps.getD 0 undef = .slice (some ⟨pb, po, none⟩) n cap := h.rest 0 (by kernel_rfl)
                refine ⟨wants_none rfl, .slice (some ⟨pb, po, none⟩) n cap, w, ?_, gb_refl _ _, rfl⟩
                clear h
                simp only [execOp, Act.eval, e0]
                go_simp
              refine ⟨Fg.value rfl fun ac w h => ?_, ?_⟩
              · have e3 : ac.tmps.getD 3 undef = .int .i64 (k : Int) := h.rest 3 (by kernel_rfl)
                refine ⟨wants_none rfl, .int .i64 (k : Int), w, ?_, gb_refl _ _, rfl⟩
                clear h
                simp only [execOp, Act.eval, e3]
                go_simp
              refine ⟨Fg.value rfl fun ac w h => ?_, ?_⟩
              · have e10 : ac.tmps.getD 10 undef = .slice (some ⟨pb, po, none⟩) n cap := h.dep 10 (by kernel_rfl)
                have e11 : ac.tmps.getD 11 undef = .int .i64 (k : Int) := h.dep 11 (by kernel_rfl)
                refine ⟨wants_none rfl, .pointer (some ⟨pb, po + k * 2, none⟩), w, ?_, gb_refl _ _, rfl⟩
                clear h
                simp only [execOp, Act.eval, e10, e11]
                go_simp
              refine ⟨Fg.value rfl fun ac w h => ?_, ?_⟩
              · have e12 : ac.tmps.getD 12 undef = .pointer (some ⟨pb, po + k * 2, none⟩) := h.dep 12 (by kernel_rfl)
                have c1 := (HK1.out h.base).1
                have c2 := (HK1.out h.base).2
                refine ⟨wants_none rfl, .agg #[iV x, iV y], w, ?_, gb_refl _ _, rfl⟩
                clear h
                simp only [execOp, Act.eval, e12]
                go_simp
              refine ⟨Fg.call rfl fun ac w h => ?_, ?_⟩
              · have e13 : ac.tmps.getD 13 undef = .agg #[iV x, iV y] := h.dep 13 (by kernel_rfl)
                have x13 : ac.tmps[13]?.getD undef = .agg #[iV x, iV y] := by simpa using e13
                have hb := h.base
                refine ⟨wants_none rfl, 104, #[.agg #[iV x, iV y]], ?_, ?_⟩
                · clear h hb e13
                  go_simp
                · refine (hD.out w).mono ?_
                  intro e w1 hp
                  obtain ⟨rfl, hg⟩ := hp
                  exact ⟨_, rfl, hg, rfl⟩
              refine ⟨Fg.value rfl fun ac w h => ?_, ?_⟩
              · have e14 : ac.tmps.getD 14 undef = .bool true := h.dep 14 (by kernel_rfl)
                refine ⟨wants_none rfl, .bool false, w, ?_, gb_refl _ _, rfl⟩
                clear h
                simp only [execOp, Act.eval, e14]
                go_simp
              refine ⟨Fg.value rfl fun ac w h => ?_, ?_⟩
              · have e15 : ac.tmps.getD 15 undef = .bool false := h.dep 15 (by kernel_rfl)
                refine ⟨wants_none rfl, .bool false, w, ?_, gb_refl _ _, rfl⟩
                clear h
                simp only [execOp, Act.eval, e15]
                go_simp
              refine ⟨Fg.value rfl fun ac w h => ?_, ?_⟩
              · have e16 : ac.tmps.getD 16 undef = .bool false := h.dep 16 (by kernel_rfl)
                have e3 : ac.tmps.getD 3 undef = .int .i64 (k : Int) := h.rest 3 (by kernel_rfl)
                refine ⟨wants_some (d := 16) rfl rfl (by rw [h.size]; show 16 < 34; decide) e16, .int .i64 (k : Int), w, ?_, gb_refl _ _, rfl⟩
                clear h
                simp only [execOp, Act.eval, e3]
                go_simp
              refine ⟨Fg.value rfl fun ac w h => ?_, ?_⟩
              · have e16 : ac.tmps.getD 16 undef = .bool false := h.dep 16 (by kernel_rfl)
                have e17 : ac.tmps.getD 17 undef = .int .i64 (k : Int) := h.dep 17 (by kernel_rfl)
                refine ⟨wants_some (d := 16) rfl rfl (by rw [h.size]; show 16 < 34; decide) e16, .bool true, w, ?_, gb_refl _ _, rfl⟩
                clear h
                simp only [execOp, Act.eval, e17]
                go_simp
              refine ⟨Fg.value rfl fun ac w h => ?_, ?_⟩
              · have e16 : ac.tmps.getD 16 undef = .bool false := h.dep 16 (by kernel_rfl)
                have e18 : ac.tmps.getD 18 undef = .bool true := h.dep 18 (by kernel_rfl)
                refine ⟨wants_some (d := 16) rfl rfl (by rw [h.size]; show 16 < 34; decide) e16, .bool true, w, ?_, gb_refl _ _, rfl⟩
                clear h
                simp only [execOp, Act.eval, e18]
                go_simp
              refine ⟨Fg.value rfl fun ac w h => ?_, ?_⟩
              · have e19 : ac.tmps.getD 19 undef = .bool true := h.dep 19 (by kernel_rfl)
                have e0 : ac.tmps.getD 0 undef = .slice (some ⟨pb, po, none⟩) n cap := h.rest 0 (by kernel_rfl)
                refine ⟨wants_some (d := 19) rfl rfl (by rw [h.size]; show 19 < 34; decide) e19, .slice (some ⟨pb, po, none⟩) n cap, w, ?_, gb_refl _ _, rfl⟩
                clear h
                simp only [execOp, Act.eval, e0]
                go_simp
              refine ⟨Fg.value rfl fun ac w h => ?_, ?_⟩
              · have e19 : ac.tmps.getD 19 undef = .bool true := h.dep 19 (by kernel_rfl)
                have e3 : ac.tmps.getD 3 undef = .int .i64 (k : Int) := h.rest 3 (by kernel_rfl)
                refine ⟨wants_some (d := 19) rfl rfl (by rw [h.size]; show 19 < 34; decide) e19, .int .i64 (k : Int), w, ?_, gb_refl _ _, rfl⟩
                clear h
                simp only [execOp, Act.eval, e3]
                go_simp
              refine ⟨Fg.value rfl fun ac w h => ?_, ?_⟩
              · have e19 : ac.tmps.getD 19 undef = .bool true := h.dep 19 (by kernel_rfl)
                have e21 : ac.tmps.getD 21 undef = .int .i64 (k : Int) := h.dep 21 (by kernel_rfl)
                refine ⟨wants_some (d := 19) rfl rfl (by rw [h.size]; show 19 < 34; decide) e19, .int .i64 (q : Int), w, ?_, gb_refl _ _, rfl⟩
                clear h
                simp only [execOp, Act.eval, e21]
                go_simp
              refine ⟨Fg.value rfl fun ac w h => ?_, ?_⟩
              · have e19 : ac.tmps.getD 19 undef = .bool true := h.dep 19 (by kernel_rfl)
                have e20 : ac.tmps.getD 20 undef = .slice (some ⟨pb, po, none⟩) n cap := h.dep 20 (by kernel_rfl)
                have e22 : ac.tmps.getD 22 undef = .int .i64 (q : Int) := h.dep 22 (by kernel_rfl)
                refine ⟨wants_some (d := 19) rfl rfl (by rw [h.size]; show 19 < 34; decide) e19, .pointer (some ⟨pb, po + q * 2, none⟩), w, ?_, gb_refl _ _, rfl⟩
                clear h
                simp only [execOp, Act.eval, e20, e22]
                go_simp
              refine ⟨Fg.value rfl fun ac w h => ?_, ?_⟩
              · have e19 : ac.tmps.getD 19 undef = .bool true := h.dep 19 (by kernel_rfl)
                have e23 : ac.tmps.getD 23 undef = .pointer (some ⟨pb, po + q * 2, none⟩) := h.dep 23 (by kernel_rfl)
                refine ⟨wants_some (d := 19) rfl rfl (by rw [h.size]; show 19 < 34; decide) e19, .pointer (some ⟨pb, po + q * 2, none⟩), w, ?_, gb_refl _ _, rfl⟩
                clear h
                simp only [execOp, Act.eval, e23]
                go_simp
              refine ⟨Fg.value rfl fun ac w h => ?_, ?_⟩
              · have e19 : ac.tmps.getD 19 undef = .bool true := h.dep 19 (by kernel_rfl)
                have e24 : ac.tmps.getD 24 undef = .pointer (some ⟨pb, po + q * 2, none⟩) := h.dep 24 (by kernel_rfl)
                have c1 := (HK2.out h.base).2
                refine ⟨wants_some (d := 19) rfl rfl (by rw [h.size]; show 19 < 34; decide) e19, iV px, w, ?_, gb_refl _ _, rfl⟩
                clear h
                simp only [execOp, Act.eval, e24]
                go_simp
              refine ⟨Fg.value rfl fun ac w h => ?_, ?_⟩
              · have e19 : ac.tmps.getD 19 undef = .bool true := h.dep 19 (by kernel_rfl)
                have e0 : ac.tmps.getD 0 undef = .slice (some ⟨pb, po, none⟩) n cap := h.rest 0 (by kernel_rfl)
                refine ⟨wants_some (d := 19) rfl rfl (by rw [h.size]; show 19 < 34; decide) e19, .slice (some ⟨pb, po, none⟩) n cap, w, ?_, gb_refl _ _, rfl⟩
                clear h
                simp only [execOp, Act.eval, e0]
                go_simp
              refine ⟨Fg.value rfl fun ac w h => ?_, ?_⟩
              · have e19 : ac.tmps.getD 19 undef = .bool true := h.dep 19 (by kernel_rfl)
                have e3 : ac.tmps.getD 3 undef = .int .i64 (k : Int) := h.rest 3 (by kernel_rfl)
                refine ⟨wants_some (d := 19) rfl rfl (by rw [h.size]; show 19 < 34; decide) e19, .int .i64 (k : Int), w, ?_, gb_refl _ _, rfl⟩
                clear h
                simp only [execOp, Act.eval, e3]
                go_simp
              refine ⟨Fg.value rfl fun ac w h => ?_, ?_⟩
              · have e19 : ac.tmps.getD 19 undef = .bool true := h.dep 19 (by kernel_rfl)
                have e26 : ac.tmps.getD 26 undef = .slice (some ⟨pb, po, none⟩) n cap := h.dep 26 (by kernel_rfl)
                have e27 : ac.tmps.getD 27 undef = .int .i64 (k : Int) := h.dep 27 (by kernel_rfl)
                refine ⟨wants_some (d := 19) rfl rfl (by rw [h.size]; show 19 < 34; decide) e19, .pointer (some ⟨pb, po + k * 2, none⟩), w, ?_, gb_refl _ _, rfl⟩
                clear h
                simp only [execOp, Act.eval, e26, e27]
                go_simp
              refine ⟨Fg.value rfl fun ac w h => ?_, ?_⟩
              · have e19 : ac.tmps.getD 19 undef = .bool true := h.dep 19 (by kernel_rfl)
                have e28 : ac.tmps.getD 28 undef = .pointer (some ⟨pb, po + k * 2, none⟩) := h.dep 28 (by kernel_rfl)
                refine ⟨wants_some (d := 19) rfl rfl (by rw [h.size]; show 19 < 34; decide) e19, .pointer (some ⟨pb, po + k * 2, none⟩), w, ?_, gb_refl _ _, rfl⟩
                clear h
                simp only [execOp, Act.eval, e28]
                go_simp
              refine ⟨Fg.value rfl fun ac w h => ?_, ?_⟩
              · have e19 : ac.tmps.getD 19 undef = .bool true := h.dep 19 (by kernel_rfl)
                have e29 : ac.tmps.getD 29 undef = .pointer (some ⟨pb, po + k * 2, none⟩) := h.dep 29 (by kernel_rfl)
                have c1 := (HK2.out h.base).1
                refine ⟨wants_some (d := 19) rfl rfl (by rw [h.size]; show 19 < 34; decide) e19, iV x, w, ?_, gb_refl _ _, rfl⟩
                clear h
                simp only [execOp, Act.eval, e29]
                go_simp
              refine ⟨Fg.value rfl fun ac w h => ?_, ?_⟩
              · have e19 : ac.tmps.getD 19 undef = .bool true := h.dep 19 (by kernel_rfl)
                have e25 : ac.tmps.getD 25 undef = iV px := h.dep 25 (by kernel_rfl)
                have e30 : ac.tmps.getD 30 undef = iV x := h.dep 30 (by kernel_rfl)
                refine ⟨wants_some (d := 19) rfl rfl (by rw [h.size]; show 19 < 34; decide) e19, .bool false, w, ?_, gb_refl _ _, rfl⟩
                clear h
                simp only [execOp, Act.eval, e25, e30]
                go_simp
              refine ⟨Fg.value rfl fun ac w h => ?_, ?_⟩
              · have e16 : ac.tmps.getD 16 undef = .bool false := h.dep 16 (by kernel_rfl)
                have e19 : ac.tmps.getD 19 undef = .bool true := h.dep 19 (by kernel_rfl)
                have e31 : ac.tmps.getD 31 undef = .bool false := h.dep 31 (by kernel_rfl)
                refine ⟨wants_some (d := 16) rfl rfl (by rw [h.size]; show 16 < 34; decide) e16, .bool false, w, ?_, gb_refl _ _, rfl⟩
                clear h
                simp only [execOp, Act.eval, e19, e31]
                go_simp
              refine ⟨Fg.value rfl fun ac w h => ?_, ?_⟩
              · have e16 : ac.tmps.getD 16 undef = .bool false := h.dep 16 (by kernel_rfl)
                have e32 : ac.tmps.getD 32 undef = .bool false := h.dep 32 (by kernel_rfl)
                refine ⟨wants_none rfl, .bool false, w, ?_, gb_refl _ _, rfl⟩
                clear h
                simp only [execOp, Act.eval, e16, e32]
                go_simp
              trivial
            · intro aq wq hB hsz hdf hrest hslots _
              obtain ⟨u10, hs10⟩ : ∃ u, aq.tmps.getD 10 undef = u := ⟨_, rfl⟩
              obtain ⟨u11, hs11⟩ : ∃ u, aq.tmps.getD 11 undef = u := ⟨_, rfl⟩
              obtain ⟨u12, hs12⟩ : ∃ u, aq.tmps.getD 12 undef = u := ⟨_, rfl⟩
              obtain ⟨u13, hs13⟩ : ∃ u, aq.tmps.getD 13 undef = u := ⟨_, rfl⟩
              obtain ⟨u14, hs14⟩ : ∃ u, aq.tmps.getD 14 undef = u := ⟨_, rfl⟩
              obtain ⟨u15, hs15⟩ : ∃ u, aq.tmps.getD 15 undef = u := ⟨_, rfl⟩
              obtain ⟨u16, hs16⟩ : ∃ u, aq.tmps.getD 16 undef = u := ⟨_, rfl⟩
              obtain ⟨u17, hs17⟩ : ∃ u, aq.tmps.getD 17 undef = u := ⟨_, rfl⟩
              obtain ⟨u18, hs18⟩ : ∃ u, aq.tmps.getD 18 undef = u := ⟨_, rfl⟩
              obtain ⟨u19, hs19⟩ : ∃ u, aq.tmps.getD 19 undef = u := ⟨_, rfl⟩
              obtain ⟨u20, hs20⟩ : ∃ u, aq.tmps.getD 20 undef = u := ⟨_, rfl⟩
              obtain ⟨u21, hs21⟩ : ∃ u, aq.tmps.getD 21 undef = u := ⟨_, rfl⟩
              obtain ⟨u22, hs22⟩ : ∃ u, aq.tmps.getD 22 undef = u := ⟨_, rfl⟩
              obtain ⟨u23, hs23⟩ : ∃ u, aq.tmps.getD 23 undef = u := ⟨_, rfl⟩
              obtain ⟨u24, hs24⟩ : ∃ u, aq.tmps.getD 24 undef = u := ⟨_, rfl⟩
              obtain ⟨u25, hs25⟩ : ∃ u, aq.tmps.getD 25 undef = u := ⟨_, rfl⟩
              obtain ⟨u26, hs26⟩ : ∃ u, aq.tmps.getD 26 undef = u := ⟨_, rfl⟩
              obtain ⟨u27, hs27⟩ : ∃ u, aq.tmps.getD 27 undef = u := ⟨_, rfl⟩
              obtain ⟨u28, hs28⟩ : ∃ u, aq.tmps.getD 28 undef = u := ⟨_, rfl⟩
              obtain ⟨u29, hs29⟩ : ∃ u, aq.tmps.getD 29 undef = u := ⟨_, rfl⟩
              obtain ⟨u30, hs30⟩ : ∃ u, aq.tmps.getD 30 undef = u := ⟨_, rfl⟩
              obtain ⟨u31, hs31⟩ : ∃ u, aq.tmps.getD 31 undef = u := ⟨_, rfl⟩
              obtain ⟨u32, hs32⟩ : ∃ u, aq.tmps.getD 32 undef = u := ⟨_, rfl⟩
              obtain rfl := Fg.frame_is (a := aq) (vs := [Value.slice (some ⟨pb, po, none⟩) n cap, undef, u2, Value.int .i64 (k : Int), Value.int .i64 (k : Int), Value.slice (some ⟨pb, po, none⟩) n cap, Value.int .i64 (n : Int), Value.bool true, u8, u9, u10, u11, u12, u13, u14, u15, u16, u17, u18, u19, u20, u21, u22, u23, u24, u25, u26, u27, u28, u29, u30, u31, u32, Value.bool false]) hsz ⟨hrest 0 (by kernel_rfl), hrest 1 (by kernel_rfl), hrest 2 (by kernel_rfl), hrest 3 (by kernel_rfl), hrest 4 (by kernel_rfl), hrest 5 (by kernel_rfl), hrest 6 (by kernel_rfl), hrest 7 (by kernel_rfl), hrest 8 (by kernel_rfl), hrest 9 (by kernel_rfl), hs10, hs11, hs12, hs13, hs14, hs15, hs16, hs17, hs18, hs19, hs20, hs21, hs22, hs23, hs24, hs25, hs26, hs27, hs28, hs29, hs30, hs31, hs32, (show aq.tmps.getD 33 undef = Value.bool false from hslots 33 (by kernel_rfl)), trivial⟩ hdf
              have hB0 := Lib.hid hB
              clear hB hsz hdf hrest hslots hs10 hs11 hs12 hs13 hs14 hs15 hs16 hs17 hs18 hs19 hs20 hs21 hs22 hs23 hs24 hs25 hs26 hs27 hs28 hs29 hs30 hs31 hs32
              go_wp2
              go_roundw
              case rel => exact ⟨k + 1, by omega, by go_num, gb_trans HI.out.1 hB0.out, HRR.out.2, HRR.out.1⟩
              case measure => simp [intOf]; omega
          · have hr : R = false := by
              have e := HX.out.1
              rw [HPV.out.1, decide_eq_false hlt2] at e
              simpa using e
            have HRR := Lib.hid hr; clear hr
            have b6 : decide (x ≤ px) = true := decide_eq_true (by omega)
            go_wp2_with fail
            refine wp_region_flow3 (Fg.its [.any, .any, .any, .any, .any, .any, .any, .any, .any, .any, .val (.slice (some ⟨pb, po, none⟩) n cap), .val (.int .i64 (k : Int)), .val (.pointer (some ⟨pb, po + k * 2, none⟩)), .val (.agg #[iV x, iV y]), .val (.bool true), .val (.bool false), .val (.bool false), .val (.int .i64 (k : Int)), .val (.bool true), .val (.bool true), .val (.slice (some ⟨pb, po, none⟩) n cap), .val (.int .i64 (k : Int)), .val (.int .i64 (q : Int)), .val (.pointer (some ⟨pb, po + q * 2, none⟩)), .val (.pointer (some ⟨pb, po + q * 2, none⟩)), .val (iV px), .val (.slice (some ⟨pb, po, none⟩) n cap), .val (.int .i64 (k : Int)), .val (.pointer (some ⟨pb, po + k * 2, none⟩)), .val (.pointer (some ⟨pb, po + k * 2, none⟩)), .val (iV x), .val (.bool true), .val (.bool true), .val (.bool true)]) (fun _ => 0) (fun _ _ _ => True) (fun w => World.grownBy wr w none) [] (by kernel_rfl) (by kernel_rfl) (by kernel_rfl) (gb_drew (gb_refl _ _)) (Fg.ptrs_nil _ _) (Fg.no_store (by kernel_rfl)) ?_ ?_
            · refine ⟨Fg.value rfl fun ac w h => ?_, ?_⟩
              · have e0 : ac.tmps.getD 0 undef = .slice (some ⟨pb, po, none⟩) n cap := h.rest 0 (by kernel_rfl)
                refine ⟨wants_none rfl, .slice (some ⟨pb, po, none⟩) n cap, w, ?_, gb_refl _ _, rfl⟩
                clear h
                simp only [execOp, Act.eval, e0]
                go_simp
              refine ⟨Fg.value rfl fun ac w h => ?_, ?_⟩
              · have e3 : ac.tmps.getD 3 undef = .int .i64 (k : Int) := h.rest 3 (by kernel_rfl)
                refine ⟨wants_none rfl, .int .i64 (k : Int), w, ?_, gb_refl _ _, rfl⟩
                clear h
                simp only [execOp, Act.eval, e3]
                go_simp
              refine ⟨Fg.value rfl fun ac w h => ?_, ?_⟩
              · have e10 : ac.tmps.getD 10 undef = .slice (some ⟨pb, po, none⟩) n cap := h.dep 10 (by kernel_rfl)
                have e11 : ac.tmps.getD 11 undef = .int .i64 (k : Int) := h.dep 11 (by kernel_rfl)
                refine ⟨wants_none rfl, .pointer (some ⟨pb, po + k * 2, none⟩), w, ?_, gb_refl _ _, rfl⟩
                clear h
                simp only [execOp, Act.eval, e10, e11]
                go_simp
              refine ⟨Fg.value rfl fun ac w h => ?_, ?_⟩
              · have e12 : ac.tmps.getD 12 undef = .pointer (some ⟨pb, po + k * 2, none⟩) := h.dep 12 (by kernel_rfl)
                have c1 := (HK1.out h.base).1
                have c2 := (HK1.out h.base).2
                refine ⟨wants_none rfl, .agg #[iV x, iV y], w, ?_, gb_refl _ _, rfl⟩
                clear h
                simp only [execOp, Act.eval, e12]
                go_simp
              refine ⟨Fg.call rfl fun ac w h => ?_, ?_⟩
              · have e13 : ac.tmps.getD 13 undef = .agg #[iV x, iV y] := h.dep 13 (by kernel_rfl)
                have x13 : ac.tmps[13]?.getD undef = .agg #[iV x, iV y] := by simpa using e13
                have hb := h.base
                refine ⟨wants_none rfl, 104, #[.agg #[iV x, iV y]], ?_, ?_⟩
                · clear h hb e13
                  go_simp
                · refine (hD.out w).mono ?_
                  intro e w1 hp
                  obtain ⟨rfl, hg⟩ := hp
                  exact ⟨_, rfl, hg, rfl⟩
              refine ⟨Fg.value rfl fun ac w h => ?_, ?_⟩
              · have e14 : ac.tmps.getD 14 undef = .bool true := h.dep 14 (by kernel_rfl)
                refine ⟨wants_none rfl, .bool false, w, ?_, gb_refl _ _, rfl⟩
                clear h
                simp only [execOp, Act.eval, e14]
                go_simp
              refine ⟨Fg.value rfl fun ac w h => ?_, ?_⟩
              · have e15 : ac.tmps.getD 15 undef = .bool false := h.dep 15 (by kernel_rfl)
                refine ⟨wants_none rfl, .bool false, w, ?_, gb_refl _ _, rfl⟩
                clear h
                simp only [execOp, Act.eval, e15]
                go_simp
              refine ⟨Fg.value rfl fun ac w h => ?_, ?_⟩
              · have e16 : ac.tmps.getD 16 undef = .bool false := h.dep 16 (by kernel_rfl)
                have e3 : ac.tmps.getD 3 undef = .int .i64 (k : Int) := h.rest 3 (by kernel_rfl)
                refine ⟨wants_some (d := 16) rfl rfl (by rw [h.size]; show 16 < 34; decide) e16, .int .i64 (k : Int), w, ?_, gb_refl _ _, rfl⟩
                clear h
                simp only [execOp, Act.eval, e3]
                go_simp
              refine ⟨Fg.value rfl fun ac w h => ?_, ?_⟩
              · have e16 : ac.tmps.getD 16 undef = .bool false := h.dep 16 (by kernel_rfl)
                have e17 : ac.tmps.getD 17 undef = .int .i64 (k : Int) := h.dep 17 (by kernel_rfl)
                refine ⟨wants_some (d := 16) rfl rfl (by rw [h.size]; show 16 < 34; decide) e16, .bool true, w, ?_, gb_refl _ _, rfl⟩
                clear h
                simp only [execOp, Act.eval, e17]
                go_simp
              refine ⟨Fg.value rfl fun ac w h => ?_, ?_⟩
              · have e16 : ac.tmps.getD 16 undef = .bool false := h.dep 16 (by kernel_rfl)
                have e18 : ac.tmps.getD 18 undef = .bool true := h.dep 18 (by kernel_rfl)
                refine ⟨wants_some (d := 16) rfl rfl (by rw [h.size]; show 16 < 34; decide) e16, .bool true, w, ?_, gb_refl _ _, rfl⟩
                clear h
                simp only [execOp, Act.eval, e18]
                go_simp
              refine ⟨Fg.value rfl fun ac w h => ?_, ?_⟩
              · have e19 : ac.tmps.getD 19 undef = .bool true := h.dep 19 (by kernel_rfl)
                have e0 : ac.tmps.getD 0 undef = .slice (some ⟨pb, po, none⟩) n cap := h.rest 0 (by kernel_rfl)
                refine ⟨wants_some (d := 19) rfl rfl (by rw [h.size]; show 19 < 34; decide) e19, .slice (some ⟨pb, po, none⟩) n cap, w, ?_, gb_refl _ _, rfl⟩
                clear h
                simp only [execOp, Act.eval, e0]
                go_simp
              refine ⟨Fg.value rfl fun ac w h => ?_, ?_⟩
              · have e19 : ac.tmps.getD 19 undef = .bool true := h.dep 19 (by kernel_rfl)
                have e3 : ac.tmps.getD 3 undef = .int .i64 (k : Int) := h.rest 3 (by kernel_rfl)
                refine ⟨wants_some (d := 19) rfl rfl (by rw [h.size]; show 19 < 34; decide) e19, .int .i64 (k : Int), w, ?_, gb_refl _ _, rfl⟩
                clear h
                simp only [execOp, Act.eval, e3]
                go_simp
              refine ⟨Fg.value rfl fun ac w h => ?_, ?_⟩
              · have e19 : ac.tmps.getD 19 undef = .bool true := h.dep 19 (by kernel_rfl)
                have e21 : ac.tmps.getD 21 undef = .int .i64 (k : Int) := h.dep 21 (by kernel_rfl)
                refine ⟨wants_some (d := 19) rfl rfl (by rw [h.size]; show 19 < 34; decide) e19, .int .i64 (q : Int), w, ?_, gb_refl _ _, rfl⟩
                clear h
                simp only [execOp, Act.eval, e21]
                go_simp
              refine ⟨Fg.value rfl fun ac w h => ?_, ?_⟩
              · have e19 : ac.tmps.getD 19 undef = .bool true := h.dep 19 (by kernel_rfl)
                have e20 : ac.tmps.getD 20 undef = .slice (some ⟨pb, po, none⟩) n cap := h.dep 20 (by kernel_rfl)
                have e22 : ac.tmps.getD 22 undef = .int .i64 (q : Int) := h.dep 22 (by kernel_rfl)
                refine ⟨wants_some (d := 19) rfl rfl (by rw [h.size]; show 19 < 34; decide) e19, .pointer (some ⟨pb, po + q * 2, none⟩), w, ?_, gb_refl _ _, rfl⟩
                clear h
                simp only [execOp, Act.eval, e20, e22]
                go_simp
              refine ⟨Fg.value rfl fun ac w h => ?_, ?_⟩
              · have e19 : ac.tmps.getD 19 undef = .bool true := h.dep 19 (by kernel_rfl)
                have e23 : ac.tmps.getD 23 undef = .pointer (some ⟨pb, po + q * 2, none⟩) := h.dep 23 (by kernel_rfl)
                refine ⟨wants_some (d := 19) rfl rfl (by rw [h.size]; show 19 < 34; decide) e19, .pointer (some ⟨pb, po + q * 2, none⟩), w, ?_, gb_refl _ _, rfl⟩
                clear h
                simp only [execOp, Act.eval, e23]
                go_simp
              refine ⟨Fg.value rfl fun ac w h => ?_, ?_⟩
              · have e19 : ac.tmps.getD 19 undef = .bool true := h.dep 19 (by kernel_rfl)
                have e24 : ac.tmps.getD 24 undef = .pointer (some ⟨pb, po + q * 2, none⟩) := h.dep 24 (by kernel_rfl)
                have c1 := (HK2.out h.base).2
                refine ⟨wants_some (d := 19) rfl rfl (by rw [h.size]; show 19 < 34; decide) e19, iV px, w, ?_, gb_refl _ _, rfl⟩
                clear h
                simp only [execOp, Act.eval, e24]
                go_simp
              refine ⟨Fg.value rfl fun ac w h => ?_, ?_⟩
              · have e19 : ac.tmps.getD 19 undef = .bool true := h.dep 19 (by kernel_rfl)
                have e0 : ac.tmps.getD 0 undef = .slice (some ⟨pb, po, none⟩) n cap := h.rest 0 (by kernel_rfl)
                refine ⟨wants_some (d := 19) rfl rfl (by rw [h.size]; show 19 < 34; decide) e19, .slice (some ⟨pb, po, none⟩) n cap, w, ?_, gb_refl _ _, rfl⟩
                clear h
                simp only [execOp, Act.eval, e0]
                go_simp
              refine ⟨Fg.value rfl fun ac w h => ?_, ?_⟩
              · have e19 : ac.tmps.getD 19 undef = .bool true := h.dep 19 (by kernel_rfl)
                have e3 : ac.tmps.getD 3 undef = .int .i64 (k : Int) := h.rest 3 (by kernel_rfl)
                refine ⟨wants_some (d := 19) rfl rfl (by rw [h.size]; show 19 < 34; decide) e19, .int .i64 (k : Int), w, ?_, gb_refl _ _, rfl⟩
                clear h
                simp only [execOp, Act.eval, e3]
                go_simp
              refine ⟨Fg.value rfl fun ac w h => ?_, ?_⟩
              · have e19 : ac.tmps.getD 19 undef = .bool true := h.dep 19 (by kernel_rfl)
                have e26 : ac.tmps.getD 26 undef = .slice (some ⟨pb, po, none⟩) n cap := h.dep 26 (by kernel_rfl)
                have e27 : ac.tmps.getD 27 undef = .int .i64 (k : Int) := h.dep 27 (by kernel_rfl)
                refine ⟨wants_some (d := 19) rfl rfl (by rw [h.size]; show 19 < 34; decide) e19, .pointer (some ⟨pb, po + k * 2, none⟩), w, ?_, gb_refl _ _, rfl⟩
                clear h
                simp only [execOp, Act.eval, e26, e27]
                go_simp
              refine ⟨Fg.value rfl fun ac w h => ?_, ?_⟩
              · have e19 : ac.tmps.getD 19 undef = .bool true := h.dep 19 (by kernel_rfl)
                have e28 : ac.tmps.getD 28 undef = .pointer (some ⟨pb, po + k * 2, none⟩) := h.dep 28 (by kernel_rfl)
                refine ⟨wants_some (d := 19) rfl rfl (by rw [h.size]; show 19 < 34; decide) e19, .pointer (some ⟨pb, po + k * 2, none⟩), w, ?_, gb_refl _ _, rfl⟩
                clear h
                simp only [execOp, Act.eval, e28]
                go_simp
              refine ⟨Fg.value rfl fun ac w h => ?_, ?_⟩
              · have e19 : ac.tmps.getD 19 undef = .bool true := h.dep 19 (by kernel_rfl)
                have e29 : ac.tmps.getD 29 undef = .pointer (some ⟨pb, po + k * 2, none⟩) := h.dep 29 (by kernel_rfl)
                have c1 := (HK2.out h.base).1
                refine ⟨wants_some (d := 19) rfl rfl (by rw [h.size]; show 19 < 34; decide) e19, iV x, w, ?_, gb_refl _ _, rfl⟩
                clear h
                simp only [execOp, Act.eval, e29]
                go_simp
              refine ⟨Fg.value rfl fun ac w h => ?_, ?_⟩
              · have e19 : ac.tmps.getD 19 undef = .bool true := h.dep 19 (by kernel_rfl)
                have e25 : ac.tmps.getD 25 undef = iV px := h.dep 25 (by kernel_rfl)
                have e30 : ac.tmps.getD 30 undef = iV x := h.dep 30 (by kernel_rfl)
                refine ⟨wants_some (d := 19) rfl rfl (by rw [h.size]; show 19 < 34; decide) e19, .bool true, w, ?_, gb_refl _ _, rfl⟩
                clear h
                simp only [execOp, Act.eval, e25, e30]
                go_simp
              refine ⟨Fg.value rfl fun ac w h => ?_, ?_⟩
              · have e16 : ac.tmps.getD 16 undef = .bool false := h.dep 16 (by kernel_rfl)
                have e19 : ac.tmps.getD 19 undef = .bool true := h.dep 19 (by kernel_rfl)
                have e31 : ac.tmps.getD 31 undef = .bool true := h.dep 31 (by kernel_rfl)
                refine ⟨wants_some (d := 16) rfl rfl (by rw [h.size]; show 16 < 34; decide) e16, .bool true, w, ?_, gb_refl _ _, rfl⟩
                clear h
                simp only [execOp, Act.eval, e19, e31]
                go_simp
              refine ⟨Fg.value rfl fun ac w h => ?_, ?_⟩
              · have e16 : ac.tmps.getD 16 undef = .bool false := h.dep 16 (by kernel_rfl)
                have e32 : ac.tmps.getD 32 undef = .bool true := h.dep 32 (by kernel_rfl)
                refine ⟨wants_none rfl, .bool true, w, ?_, gb_refl _ _, rfl⟩
                clear h
                simp only [execOp, Act.eval, e16, e32]
                go_simp
              trivial
            · intro aq wq hB hsz hdf hrest hslots _
              obtain ⟨u10, hs10⟩ : ∃ u, aq.tmps.getD 10 undef = u := ⟨_, rfl⟩
              obtain ⟨u11, hs11⟩ : ∃ u, aq.tmps.getD 11 undef = u := ⟨_, rfl⟩
              obtain ⟨u12, hs12⟩ : ∃ u, aq.tmps.getD 12 undef = u := ⟨_, rfl⟩
              obtain ⟨u13, hs13⟩ : ∃ u, aq.tmps.getD 13 undef = u := ⟨_, rfl⟩
              obtain ⟨u14, hs14⟩ : ∃ u, aq.tmps.getD 14 undef = u := ⟨_, rfl⟩
              obtain ⟨u15, hs15⟩ : ∃ u, aq.tmps.getD 15 undef = u := ⟨_, rfl⟩
              obtain ⟨u16, hs16⟩ : ∃ u, aq.tmps.getD 16 undef = u := ⟨_, rfl⟩
              obtain ⟨u17, hs17⟩ : ∃ u, aq.tmps.getD 17 undef = u := ⟨_, rfl⟩
              obtain ⟨u18, hs18⟩ : ∃ u, aq.tmps.getD 18 undef = u := ⟨_, rfl⟩
              obtain ⟨u19, hs19⟩ : ∃ u, aq.tmps.getD 19 undef = u := ⟨_, rfl⟩
              obtain ⟨u20, hs20⟩ : ∃ u, aq.tmps.getD 20 undef = u := ⟨_, rfl⟩
              obtain ⟨u21, hs21⟩ : ∃ u, aq.tmps.getD 21 undef = u := ⟨_, rfl⟩
              obtain ⟨u22, hs22⟩ : ∃ u, aq.tmps.getD 22 undef = u := ⟨_, rfl⟩
              obtain ⟨u23, hs23⟩ : ∃ u, aq.tmps.getD 23 undef = u := ⟨_, rfl⟩
              obtain ⟨u24, hs24⟩ : ∃ u, aq.tmps.getD 24 undef = u := ⟨_, rfl⟩
              obtain ⟨u25, hs25⟩ : ∃ u, aq.tmps.getD 25 undef = u := ⟨_, rfl⟩
              obtain ⟨u26, hs26⟩ : ∃ u, aq.tmps.getD 26 undef = u := ⟨_, rfl⟩
              obtain ⟨u27, hs27⟩ : ∃ u, aq.tmps.getD 27 undef = u := ⟨_, rfl⟩
              obtain ⟨u28, hs28⟩ : ∃ u, aq.tmps.getD 28 undef = u := ⟨_, rfl⟩
              obtain ⟨u29, hs29⟩ : ∃ u, aq.tmps.getD 29 undef = u := ⟨_, rfl⟩
              obtain ⟨u30, hs30⟩ : ∃ u, aq.tmps.getD 30 undef = u := ⟨_, rfl⟩
              obtain ⟨u31, hs31⟩ : ∃ u, aq.tmps.getD 31 undef = u := ⟨_, rfl⟩
              obtain ⟨u32, hs32⟩ : ∃ u, aq.tmps.getD 32 undef = u := ⟨_, rfl⟩
              obtain rfl := Fg.frame_is (a := aq) (vs := [Value.slice (some ⟨pb, po, none⟩) n cap, undef, u2, Value.int .i64 (k : Int), Value.int .i64 (k : Int), Value.slice (some ⟨pb, po, none⟩) n cap, Value.int .i64 (n : Int), Value.bool true, u8, u9, u10, u11, u12, u13, u14, u15, u16, u17, u18, u19, u20, u21, u22, u23, u24, u25, u26, u27, u28, u29, u30, u31, u32, Value.bool true]) hsz ⟨hrest 0 (by kernel_rfl), hrest 1 (by kernel_rfl), hrest 2 (by kernel_rfl), hrest 3 (by kernel_rfl), hrest 4 (by kernel_rfl), hrest 5 (by kernel_rfl), hrest 6 (by kernel_rfl), hrest 7 (by kernel_rfl), hrest 8 (by kernel_rfl), hrest 9 (by kernel_rfl), hs10, hs11, hs12, hs13, hs14, hs15, hs16, hs17, hs18, hs19, hs20, hs21, hs22, hs23, hs24, hs25, hs26, hs27, hs28, hs29, hs30, hs31, hs32, (show aq.tmps.getD 33 undef = Value.bool true from hslots 33 (by kernel_rfl)), trivial⟩ hdf
              have hB0 := Lib.hid hB
              clear hB hsz hdf hrest hslots hs10 hs11 hs12 hs13 hs14 hs15 hs16 hs17 hs18 hs19 hs20 hs21 hs22 hs23 hs24 hs25 hs26 hs27 hs28 hs29 hs30 hs31 hs32
              go_wp2
              go_ret
              exact ⟨by rw [HRR.out]; rfl, gb_trans HI.out.1 hB0.out⟩
      · have hokf : okD (x, y) = false := by simpa using hok
        have hD := Lib.hid (fun W => refDot_any false x y W hokf)
        have hr : R = false := by
          have e := HX.out.1
          by_cases h0 : 1 ≤ x
          · have : (decide (x ≤ 8) && decide (1 ≤ y) && decide (y ≤ 1073741824)) = false := by
              rw [okD, decide_eq_true h0] at hokf; simpa using hokf
            rw [e]
            simp only [Bool.and_assoc] at this ⊢
            rw [show (decide (x ≤ 8) && (decide (1 ≤ y) && (decide (y ≤ 1073741824) && rtB (pv l (k + 1)) (l.drop (k + 1))))) = ((decide (x ≤ 8) && (decide (1 ≤ y) && decide (y ≤ 1073741824))) && rtB (pv l (k + 1)) (l.drop (k + 1))) by simp only [Bool.and_assoc], this]
            simp
          · have := HI.out.2.1
            rw [e, decide_eq_false (show ¬ pv l k < x by omega)]; rfl
        have HRR := Lib.hid hr; clear hr hok hokf hcs
        go_wp2_with fail
        refine wp_region_flow3 (Fg.its [.any, .any, .any, .any, .any, .any, .any, .any, .any, .any, .val (.slice (some ⟨pb, po, none⟩) n cap), .val (.int .i64 (k : Int)), .val (.pointer (some ⟨pb, po + k * 2, none⟩)), .val (.agg #[iV x, iV y]), .val (.bool false), .val (.bool true), .val (.bool true), .val undef, .val undef, .val undef, .val undef, .val undef, .val undef, .val undef, .val undef, .val undef, .val undef, .val undef, .val undef, .val undef, .val undef, .val undef, .val undef, .val (.bool true)]) (fun _ => 0) (fun _ _ _ => True) (fun w => World.grownBy wr w none) [] (by kernel_rfl) (by kernel_rfl) (by kernel_rfl) (gb_drew (gb_refl _ _)) (Fg.ptrs_nil _ _) (Fg.no_store (by kernel_rfl)) ?_ ?_
        · refine ⟨Fg.value rfl fun ac w h => ?_, ?_⟩
          · have e0 : ac.tmps.getD 0 undef = .slice (some ⟨pb, po, none⟩) n cap := h.rest 0 (by kernel_rfl)
            refine ⟨wants_none rfl, .slice (some ⟨pb, po, none⟩) n cap, w, ?_, gb_refl _ _, rfl⟩
            clear h
            simp only [execOp, Act.eval, e0]
            go_simp
          refine ⟨Fg.value rfl fun ac w h => ?_, ?_⟩
          · have e3 : ac.tmps.getD 3 undef = .int .i64 (k : Int) := h.rest 3 (by kernel_rfl)
            refine ⟨wants_none rfl, .int .i64 (k : Int), w, ?_, gb_refl _ _, rfl⟩
            clear h
            simp only [execOp, Act.eval, e3]
            go_simp
          refine ⟨Fg.value rfl fun ac w h => ?_, ?_⟩
          · have e10 : ac.tmps.getD 10 undef = .slice (some ⟨pb, po, none⟩) n cap := h.dep 10 (by kernel_rfl)
            have e11 : ac.tmps.getD 11 undef = .int .i64 (k : Int) := h.dep 11 (by kernel_rfl)
            refine ⟨wants_none rfl, .pointer (some ⟨pb, po + k * 2, none⟩), w, ?_, gb_refl _ _, rfl⟩
            clear h
            simp only [execOp, Act.eval, e10, e11]
            go_simp
          refine ⟨Fg.value rfl fun ac w h => ?_, ?_⟩
          · have e12 : ac.tmps.getD 12 undef = .pointer (some ⟨pb, po + k * 2, none⟩) := h.dep 12 (by kernel_rfl)
            have c1 := (HK1.out h.base).1
            have c2 := (HK1.out h.base).2
            refine ⟨wants_none rfl, .agg #[iV x, iV y], w, ?_, gb_refl _ _, rfl⟩
            clear h
            simp only [execOp, Act.eval, e12]
            go_simp
          refine ⟨Fg.call rfl fun ac w h => ?_, ?_⟩
          · have e13 : ac.tmps.getD 13 undef = .agg #[iV x, iV y] := h.dep 13 (by kernel_rfl)
            have x13 : ac.tmps[13]?.getD undef = .agg #[iV x, iV y] := by simpa using e13
            have hb := h.base
            refine ⟨wants_none rfl, 104, #[.agg #[iV x, iV y]], ?_, ?_⟩
            · clear h hb e13
              go_simp
            · refine (hD.out w).mono ?_
              intro e w1 hp
              obtain ⟨rfl, hg⟩ := hp
              exact ⟨_, rfl, hg, rfl⟩
          refine ⟨Fg.value rfl fun ac w h => ?_, ?_⟩
          · have e14 : ac.tmps.getD 14 undef = .bool false := h.dep 14 (by kernel_rfl)
            refine ⟨wants_none rfl, .bool true, w, ?_, gb_refl _ _, rfl⟩
            clear h
            simp only [execOp, Act.eval, e14]
            go_simp
          refine ⟨Fg.value rfl fun ac w h => ?_, ?_⟩
          · have e15 : ac.tmps.getD 15 undef = .bool true := h.dep 15 (by kernel_rfl)
            refine ⟨wants_none rfl, .bool true, w, ?_, gb_refl _ _, rfl⟩
            clear h
            simp only [execOp, Act.eval, e15]
            go_simp
          refine ⟨Fg.skipped rfl (fun _ => rfl) fun ac w h => ?_, ?_⟩
          · have e16 : ac.tmps.getD 16 undef = .bool true := h.dep 16 (by kernel_rfl)
            exact not_wants (d := 16) rfl rfl (by rw [h.size]; show 16 < 34; decide) e16 (by decide)
          refine ⟨Fg.skipped rfl (fun _ => rfl) fun ac w h => ?_, ?_⟩
          · have e16 : ac.tmps.getD 16 undef = .bool true := h.dep 16 (by kernel_rfl)
            exact not_wants (d := 16) rfl rfl (by rw [h.size]; show 16 < 34; decide) e16 (by decide)
          refine ⟨Fg.skipped rfl (fun _ => rfl) fun ac w h => ?_, ?_⟩
          · have e16 : ac.tmps.getD 16 undef = .bool true := h.dep 16 (by kernel_rfl)
            exact not_wants (d := 16) rfl rfl (by rw [h.size]; show 16 < 34; decide) e16 (by decide)
          refine ⟨Fg.skipped rfl (fun _ => rfl) fun ac w h => ?_, ?_⟩
          · have e19 : ac.tmps.getD 19 undef = undef := h.dep 19 (by kernel_rfl)
            exact Fg.not_wants_undef (d := 19) rfl rfl (by rw [h.size]; show 19 < 34; decide) e19
          refine ⟨Fg.skipped rfl (fun _ => rfl) fun ac w h => ?_, ?_⟩
          · have e19 : ac.tmps.getD 19 undef = undef := h.dep 19 (by kernel_rfl)
            exact Fg.not_wants_undef (d := 19) rfl rfl (by rw [h.size]; show 19 < 34; decide) e19
          refine ⟨Fg.skipped rfl (fun _ => rfl) fun ac w h => ?_, ?_⟩
          · have e19 : ac.tmps.getD 19 undef = undef := h.dep 19 (by kernel_rfl)
            exact Fg.not_wants_undef (d := 19) rfl rfl (by rw [h.size]; show 19 < 34; decide) e19
          refine ⟨Fg.skipped rfl (fun _ => rfl) fun ac w h => ?_, ?_⟩
          · have e19 : ac.tmps.getD 19 undef = undef := h.dep 19 (by kernel_rfl)
            exact Fg.not_wants_undef (d := 19) rfl rfl (by rw [h.size]; show 19 < 34; decide) e19
          refine ⟨Fg.skipped rfl (fun _ => rfl) fun ac w h => ?_, ?_⟩
          · have e19 : ac.tmps.getD 19 undef = undef := h.dep 19 (by kernel_rfl)
            exact Fg.not_wants_undef (d := 19) rfl rfl (by rw [h.size]; show 19 < 34; decide) e19
          refine ⟨Fg.skipped rfl (fun _ => rfl) fun ac w h => ?_, ?_⟩
          · have e19 : ac.tmps.getD 19 undef = undef := h.dep 19 (by kernel_rfl)
            exact Fg.not_wants_undef (d := 19) rfl rfl (by rw [h.size]; show 19 < 34; decide) e19
          refine ⟨Fg.skipped rfl (fun _ => rfl) fun ac w h => ?_, ?_⟩
          · have e19 : ac.tmps.getD 19 undef = undef := h.dep 19 (by kernel_rfl)
            exact Fg.not_wants_undef (d := 19) rfl rfl (by rw [h.size]; show 19 < 34; decide) e19
          refine ⟨Fg.skipped rfl (fun _ => rfl) fun ac w h => ?_, ?_⟩
          · have e19 : ac.tmps.getD 19 undef = undef := h.dep 19 (by kernel_rfl)
            exact Fg.not_wants_undef (d := 19) rfl rfl (by rw [h.size]; show 19 < 34; decide) e19
          refine ⟨Fg.skipped rfl (fun _ => rfl) fun ac w h => ?_, ?_⟩
          · have e19 : ac.tmps.getD 19 undef = undef := h.dep 19 (by kernel_rfl)
            exact Fg.not_wants_undef (d := 19) rfl rfl (by rw [h.size]; show 19 < 34; decide) e19
          refine ⟨Fg.skipped rfl (fun _ => rfl) fun ac w h => ?_, ?_⟩
          · have e19 : ac.tmps.getD 19 undef = undef := h.dep 19 (by kernel_rfl)
            exact Fg.not_wants_undef (d := 19) rfl rfl (by rw [h.size]; show 19 < 34; decide) e19
          refine ⟨Fg.skipped rfl (fun _ => rfl) fun ac w h => ?_, ?_⟩
          · have e19 : ac.tmps.getD 19 undef = undef := h.dep 19 (by kernel_rfl)
            exact Fg.not_wants_undef (d := 19) rfl rfl (by rw [h.size]; show 19 < 34; decide) e19
          refine ⟨Fg.skipped rfl (fun _ => rfl) fun ac w h => ?_, ?_⟩
          · have e19 : ac.tmps.getD 19 undef = undef := h.dep 19 (by kernel_rfl)
            exact Fg.not_wants_undef (d := 19) rfl rfl (by rw [h.size]; show 19 < 34; decide) e19
          refine ⟨Fg.skipped rfl (fun _ => rfl) fun ac w h => ?_, ?_⟩
          · have e16 : ac.tmps.getD 16 undef = .bool true := h.dep 16 (by kernel_rfl)
            exact not_wants (d := 16) rfl rfl (by rw [h.size]; show 16 < 34; decide) e16 (by decide)
          refine ⟨Fg.value rfl fun ac w h => ?_, ?_⟩
          · have e16 : ac.tmps.getD 16 undef = .bool true := h.dep 16 (by kernel_rfl)
            refine ⟨wants_none rfl, .bool true, w, ?_, gb_refl _ _, rfl⟩
            clear h
            simp only [execOp, Act.eval, e16]
            go_simp
          trivial
        · intro aq wq hB hsz hdf hrest hslots _
          obtain ⟨u10, hs10⟩ : ∃ u, aq.tmps.getD 10 undef = u := ⟨_, rfl⟩
          obtain ⟨u11, hs11⟩ : ∃ u, aq.tmps.getD 11 undef = u := ⟨_, rfl⟩
          obtain ⟨u12, hs12⟩ : ∃ u, aq.tmps.getD 12 undef = u := ⟨_, rfl⟩
          obtain ⟨u13, hs13⟩ : ∃ u, aq.tmps.getD 13 undef = u := ⟨_, rfl⟩
          obtain ⟨u14, hs14⟩ : ∃ u, aq.tmps.getD 14 undef = u := ⟨_, rfl⟩
          obtain ⟨u15, hs15⟩ : ∃ u, aq.tmps.getD 15 undef = u := ⟨_, rfl⟩
          obtain ⟨u16, hs16⟩ : ∃ u, aq.tmps.getD 16 undef = u := ⟨_, rfl⟩
          obtain ⟨u17, hs17⟩ : ∃ u, aq.tmps.getD 17 undef = u := ⟨_, rfl⟩
          obtain ⟨u18, hs18⟩ : ∃ u, aq.tmps.getD 18 undef = u := ⟨_, rfl⟩
          obtain ⟨u19, hs19⟩ : ∃ u, aq.tmps.getD 19 undef = u := ⟨_, rfl⟩
          obtain ⟨u20, hs20⟩ : ∃ u, aq.tmps.getD 20 undef = u := ⟨_, rfl⟩
          obtain ⟨u21, hs21⟩ : ∃ u, aq.tmps.getD 21 undef = u := ⟨_, rfl⟩
          obtain ⟨u22, hs22⟩ : ∃ u, aq.tmps.getD 22 undef = u := ⟨_, rfl⟩
          obtain ⟨u23, hs23⟩ : ∃ u, aq.tmps.getD 23 undef = u := ⟨_, rfl⟩
          obtain ⟨u24, hs24⟩ : ∃ u, aq.tmps.getD 24 undef = u := ⟨_, rfl⟩
          obtain ⟨u25, hs25⟩ : ∃ u, aq.tmps.getD 25 undef = u := ⟨_, rfl⟩
          obtain ⟨u26, hs26⟩ : ∃ u, aq.tmps.getD 26 undef = u := ⟨_, rfl⟩
          obtain ⟨u27, hs27⟩ : ∃ u, aq.tmps.getD 27 undef = u := ⟨_, rfl⟩
          obtain ⟨u28, hs28⟩ : ∃ u, aq.tmps.getD 28 undef = u := ⟨_, rfl⟩
          obtain ⟨u29, hs29⟩ : ∃ u, aq.tmps.getD 29 undef = u := ⟨_, rfl⟩
          obtain ⟨u30, hs30⟩ : ∃ u, aq.tmps.getD 30 undef = u := ⟨_, rfl⟩
          obtain ⟨u31, hs31⟩ : ∃ u, aq.tmps.getD 31 undef = u := ⟨_, rfl⟩
          obtain ⟨u32, hs32⟩ : ∃ u, aq.tmps.getD 32 undef = u := ⟨_, rfl⟩
          obtain rfl := Fg.frame_is (a := aq) (vs := [Value.slice (some ⟨pb, po, none⟩) n cap, undef, u2, Value.int .i64 (k : Int), Value.int .i64 (k : Int), Value.slice (some ⟨pb, po, none⟩) n cap, Value.int .i64 (n : Int), Value.bool true, u8, u9, u10, u11, u12, u13, u14, u15, u16, u17, u18, u19, u20, u21, u22, u23, u24, u25, u26, u27, u28, u29, u30, u31, u32, Value.bool true]) hsz ⟨hrest 0 (by kernel_rfl), hrest 1 (by kernel_rfl), hrest 2 (by kernel_rfl), hrest 3 (by kernel_rfl), hrest 4 (by kernel_rfl), hrest 5 (by kernel_rfl), hrest 6 (by kernel_rfl), hrest 7 (by kernel_rfl), hrest 8 (by kernel_rfl), hrest 9 (by kernel_rfl), hs10, hs11, hs12, hs13, hs14, hs15, hs16, hs17, hs18, hs19, hs20, hs21, hs22, hs23, hs24, hs25, hs26, hs27, hs28, hs29, hs30, hs31, hs32, (show aq.tmps.getD 33 undef = Value.bool true from hslots 33 (by kernel_rfl)), trivial⟩ hdf
          have hB0 := Lib.hid hB
          clear hB hsz hdf hrest hslots hs10 hs11 hs12 hs13 hs14 hs15 hs16 hs17 hs18 hs19 hs20 hs21 hs22 hs23 hs24 hs25 hs26 hs27 hs28 hs29 hs30 hs31 hs32
          go_wp2
          go_ret
          exact ⟨by rw [HRR.out]; rfl, gb_trans HI.out.1 hB0.out⟩
    · obtain rfl : k = n := by omega
      have hr : R = true := by rw [HI.out.2.2, drop_end l k (by rw [HN.out]; omega)]; rfl
      have HRT := Lib.hid hr; clear hr
      go_wp2
      go_ret
      exact ⟨by rw [HRT.out]; rfl, HI.out.1⟩
end Ve
end Go.Proofs.YtohcoihdijemfaaGreat

/- The document's Has, Covers (buttressref07). (Has' regions printed by gen_refhas.py.) -/
namespace Go.Proofs.YtohcoihdijemfaaGreat
open Go.RowKit Ve
namespace Ve
set_option maxHeartbeats 1000000 in
theorem refHas_A (n cap : Nat) (a : Option Addr) (x y : Int) (w W1 : World) (N : Nat) (Q : Ending → World → Prop) (hN : N = w.heap.size) (hW1 : W1 = w.alloc (.cells #[iV x, iV y] 99))
    (hR : ∀ W, W1.grownBy W none → Calls Tryz.prog 105 #[.slice a n cap] W fun e w' => e = .returned (.bool false) ∧ W.grownBy w' none)
    (hQ : ∀ w', W1.grownBy w' none → Q (.returned (.bool false)) w') : Calls Tryz.prog 64 #[.slice a n cap, .agg #[iV x, iV y]] w Q := by
  have HR := Lib.hid hR; clear hR
  have HQ := Lib.hid hQ; clear hQ
  have HK : Hid (∀ {w' : World}, W1.grownBy w' none → w'.cell? ⟨N, 0, none⟩ = some (iV x) ∧ w'.cell? ⟨N, 1, none⟩ = some (iV y)) := fun {w'} hg => by
    have hB : Blk W1 N 99 [iV x, iV y] := by rw [hW1, hN]; exact Blk.new w _ _
    have hB2 := hB.grown hg (by simp)
    exact ⟨hB2.cell (i := 0) rfl, hB2.cell (i := 1) rfl⟩
  go_enter Tryz.func64, Tryz.ntmps64
  go_wp2_with fail
  rw [← hW1, ← hN]
  clear hW1 hN
  refine wp_region_flow3 (Fg.its [.any, .any, .any, .any, .val (.bool false), .val (.slice a n cap), .val (.bool false), .val (.bool false), .val undef, .val undef, .val (.bool false), .val (.bool false), .val undef, .val undef, .val undef, .val undef, .val undef, .val undef, .val undef, .val (.bool false)]) (fun _ => 0) (fun _ _ _ => True) (fun w => World.grownBy W1 w none) [] (by kernel_rfl) (by kernel_rfl) (by kernel_rfl) (gb_drew (gb_refl _ _)) (Fg.ptrs_nil _ _) (Fg.no_store (by kernel_rfl)) ?_ ?_
  · refine ⟨Fg.value rfl fun ac w h => ?_, ?_⟩
    · have e0 : ac.tmps.getD 0 undef = .slice a n cap := h.rest 0 (by kernel_rfl)
      refine ⟨wants_none rfl, .slice a n cap, w, ?_, gb_refl _ _, rfl⟩
      clear h
      simp only [execOp, Act.eval, e0]
      go_simp
    refine ⟨Fg.call rfl fun ac w h => ?_, ?_⟩
    · have e5 : ac.tmps.getD 5 undef = .slice a n cap := h.dep 5 (by kernel_rfl)
      have x5 : ac.tmps[5]?.getD undef = .slice a n cap := by simpa using e5
      have hb := h.base
      refine ⟨wants_none rfl, 105, #[.slice a n cap], ?_, ?_⟩
      · clear h hb e5
        go_simp
      · refine (HR.out w h.base).mono ?_
        intro e w1 hp
        obtain ⟨rfl, hg⟩ := hp
        exact ⟨_, rfl, hg, rfl⟩
    refine ⟨Fg.value rfl fun ac w h => ?_, ?_⟩
    · have e6 : ac.tmps.getD 6 undef = .bool false := h.dep 6 (by kernel_rfl)
      refine ⟨wants_none rfl, .bool false, w, ?_, gb_refl _ _, rfl⟩
      clear h
      simp only [execOp, Act.eval, e6]
      go_simp
    refine ⟨Fg.skipped rfl (fun _ => rfl) fun ac w h => ?_, ?_⟩
    · have e7 : ac.tmps.getD 7 undef = .bool false := h.dep 7 (by kernel_rfl)
      exact not_wants (d := 7) rfl rfl (by rw [h.size]; show 7 < 20; decide) e7 (by decide)
    refine ⟨Fg.skipped rfl (fun _ => rfl) fun ac w h => ?_, ?_⟩
    · have e7 : ac.tmps.getD 7 undef = .bool false := h.dep 7 (by kernel_rfl)
      exact not_wants (d := 7) rfl rfl (by rw [h.size]; show 7 < 20; decide) e7 (by decide)
    refine ⟨Fg.value rfl fun ac w h => ?_, ?_⟩
    · have e7 : ac.tmps.getD 7 undef = .bool false := h.dep 7 (by kernel_rfl)
      refine ⟨wants_none rfl, .bool false, w, ?_, gb_refl _ _, rfl⟩
      clear h
      simp only [execOp, Act.eval, e7]
      go_simp
    refine ⟨Fg.value rfl fun ac w h => ?_, ?_⟩
    · have e10 : ac.tmps.getD 10 undef = .bool false := h.dep 10 (by kernel_rfl)
      refine ⟨wants_none rfl, .bool false, w, ?_, gb_refl _ _, rfl⟩
      clear h
      simp only [execOp, Act.eval, e10]
      go_simp
    refine ⟨Fg.skipped rfl (fun _ => rfl) fun ac w h => ?_, ?_⟩
    · have e11 : ac.tmps.getD 11 undef = .bool false := h.dep 11 (by kernel_rfl)
      exact not_wants (d := 11) rfl rfl (by rw [h.size]; show 11 < 20; decide) e11 (by decide)
    refine ⟨Fg.skipped rfl (fun _ => rfl) fun ac w h => ?_, ?_⟩
    · have e11 : ac.tmps.getD 11 undef = .bool false := h.dep 11 (by kernel_rfl)
      exact not_wants (d := 11) rfl rfl (by rw [h.size]; show 11 < 20; decide) e11 (by decide)
    refine ⟨Fg.skipped rfl (fun _ => rfl) fun ac w h => ?_, ?_⟩
    · have e11 : ac.tmps.getD 11 undef = .bool false := h.dep 11 (by kernel_rfl)
      exact not_wants (d := 11) rfl rfl (by rw [h.size]; show 11 < 20; decide) e11 (by decide)
    refine ⟨Fg.skipped rfl (fun _ => rfl) fun ac w h => ?_, ?_⟩
    · have e11 : ac.tmps.getD 11 undef = .bool false := h.dep 11 (by kernel_rfl)
      exact not_wants (d := 11) rfl rfl (by rw [h.size]; show 11 < 20; decide) e11 (by decide)
    refine ⟨Fg.skipped rfl (fun _ => rfl) fun ac w h => ?_, ?_⟩
    · have e11 : ac.tmps.getD 11 undef = .bool false := h.dep 11 (by kernel_rfl)
      exact not_wants (d := 11) rfl rfl (by rw [h.size]; show 11 < 20; decide) e11 (by decide)
    refine ⟨Fg.skipped rfl (fun _ => rfl) fun ac w h => ?_, ?_⟩
    · have e11 : ac.tmps.getD 11 undef = .bool false := h.dep 11 (by kernel_rfl)
      exact not_wants (d := 11) rfl rfl (by rw [h.size]; show 11 < 20; decide) e11 (by decide)
    refine ⟨Fg.skipped rfl (fun _ => rfl) fun ac w h => ?_, ?_⟩
    · have e11 : ac.tmps.getD 11 undef = .bool false := h.dep 11 (by kernel_rfl)
      exact not_wants (d := 11) rfl rfl (by rw [h.size]; show 11 < 20; decide) e11 (by decide)
    refine ⟨Fg.value rfl fun ac w h => ?_, ?_⟩
    · have e11 : ac.tmps.getD 11 undef = .bool false := h.dep 11 (by kernel_rfl)
      refine ⟨wants_none rfl, .bool false, w, ?_, gb_refl _ _, rfl⟩
      clear h
      simp only [execOp, Act.eval, e11]
      go_simp
    refine ⟨Fg.value rfl fun ac w h => ?_, ?_⟩
    · have e19 : ac.tmps.getD 19 undef = .bool false := h.dep 19 (by kernel_rfl)
      refine ⟨wants_none rfl, .bool false, w, ?_, gb_refl _ _, rfl⟩
      clear h
      simp only [execOp, Act.eval, e19]
      go_simp
    trivial
  · intro aq wq hB hsz hdf hrest hslots _
    obtain ⟨u5, hs5⟩ : ∃ u, aq.tmps.getD 5 undef = u := ⟨_, rfl⟩
    obtain ⟨u6, hs6⟩ : ∃ u, aq.tmps.getD 6 undef = u := ⟨_, rfl⟩
    obtain ⟨u7, hs7⟩ : ∃ u, aq.tmps.getD 7 undef = u := ⟨_, rfl⟩
    obtain ⟨u8, hs8⟩ : ∃ u, aq.tmps.getD 8 undef = u := ⟨_, rfl⟩
    obtain ⟨u9, hs9⟩ : ∃ u, aq.tmps.getD 9 undef = u := ⟨_, rfl⟩
    obtain ⟨u10, hs10⟩ : ∃ u, aq.tmps.getD 10 undef = u := ⟨_, rfl⟩
    obtain ⟨u11, hs11⟩ : ∃ u, aq.tmps.getD 11 undef = u := ⟨_, rfl⟩
    obtain ⟨u12, hs12⟩ : ∃ u, aq.tmps.getD 12 undef = u := ⟨_, rfl⟩
    obtain ⟨u13, hs13⟩ : ∃ u, aq.tmps.getD 13 undef = u := ⟨_, rfl⟩
    obtain ⟨u14, hs14⟩ : ∃ u, aq.tmps.getD 14 undef = u := ⟨_, rfl⟩
    obtain ⟨u15, hs15⟩ : ∃ u, aq.tmps.getD 15 undef = u := ⟨_, rfl⟩
    obtain ⟨u16, hs16⟩ : ∃ u, aq.tmps.getD 16 undef = u := ⟨_, rfl⟩
    obtain ⟨u17, hs17⟩ : ∃ u, aq.tmps.getD 17 undef = u := ⟨_, rfl⟩
    obtain ⟨u18, hs18⟩ : ∃ u, aq.tmps.getD 18 undef = u := ⟨_, rfl⟩
    obtain ⟨u19, hs19⟩ : ∃ u, aq.tmps.getD 19 undef = u := ⟨_, rfl⟩
    obtain rfl := Fg.frame_is (a := aq) (vs := [Value.slice a n cap, Value.agg #[iV x, iV y], undef, Value.pointer (some ⟨N, 0, none⟩), Value.bool false, u5, u6, u7, u8, u9, u10, u11, u12, u13, u14, u15, u16, u17, u18, u19]) hsz ⟨hrest 0 (by kernel_rfl), hrest 1 (by kernel_rfl), hrest 2 (by kernel_rfl), hrest 3 (by kernel_rfl), (show aq.tmps.getD 4 undef = Value.bool false from hslots 4 (by kernel_rfl)), hs5, hs6, hs7, hs8, hs9, hs10, hs11, hs12, hs13, hs14, hs15, hs16, hs17, hs18, hs19, trivial⟩ hdf
    have HB0 := Lib.hid hB
    clear hB hsz hdf hrest hslots hs5 hs6 hs7 hs8 hs9 hs10 hs11 hs12 hs13 hs14 hs15 hs16 hs17 hs18 hs19
    go_wp2
    exact HQ.out _ HB0.out
set_option maxHeartbeats 1000000 in
theorem refHas_B (n cap : Nat) (a : Option Addr) (x y : Int) (w W1 : World) (N : Nat) (Q : Ending → World → Prop) (hN : N = w.heap.size) (hW1 : W1 = w.alloc (.cells #[iV x, iV y] 99))
    (hR : ∀ W, W1.grownBy W none → Calls Tryz.prog 105 #[.slice a n cap] W fun e w' => e = .returned (.bool true) ∧ W.grownBy w' none)
    (hD : ∀ W, Calls Tryz.prog 104 #[.agg #[iV x, iV y]] W (BOut W false))
    (hQ : ∀ w', W1.grownBy w' none → Q (.returned (.bool false)) w') : Calls Tryz.prog 64 #[.slice a n cap, .agg #[iV x, iV y]] w Q := by
  have HR := Lib.hid hR; clear hR
  have HD := Lib.hid hD; clear hD
  have HQ := Lib.hid hQ; clear hQ
  have HK : Hid (∀ {w' : World}, W1.grownBy w' none → w'.cell? ⟨N, 0, none⟩ = some (iV x) ∧ w'.cell? ⟨N, 1, none⟩ = some (iV y)) := fun {w'} hg => by
    have hB : Blk W1 N 99 [iV x, iV y] := by rw [hW1, hN]; exact Blk.new w _ _
    have hB2 := hB.grown hg (by simp)
    exact ⟨hB2.cell (i := 0) rfl, hB2.cell (i := 1) rfl⟩
  go_enter Tryz.func64, Tryz.ntmps64
  go_wp2_with fail
  rw [← hW1, ← hN]
  clear hW1 hN
  refine wp_region_flow3 (Fg.its [.any, .any, .any, .any, .val (.bool false), .val (.slice a n cap), .val (.bool true), .val (.bool true), .val (.agg #[iV x, iV y]), .val (.bool false), .val (.bool false), .val (.bool false), .val undef, .val undef, .val undef, .val undef, .val undef, .val undef, .val undef, .val (.bool false)]) (fun _ => 0) (fun _ _ _ => True) (fun w => World.grownBy W1 w none) [] (by kernel_rfl) (by kernel_rfl) (by kernel_rfl) (gb_drew (gb_refl _ _)) (Fg.ptrs_nil _ _) (Fg.no_store (by kernel_rfl)) ?_ ?_
  · refine ⟨Fg.value rfl fun ac w h => ?_, ?_⟩
    · have e0 : ac.tmps.getD 0 undef = .slice a n cap := h.rest 0 (by kernel_rfl)
      refine ⟨wants_none rfl, .slice a n cap, w, ?_, gb_refl _ _, rfl⟩
      clear h
      simp only [execOp, Act.eval, e0]
      go_simp
    refine ⟨Fg.call rfl fun ac w h => ?_, ?_⟩
    · have e5 : ac.tmps.getD 5 undef = .slice a n cap := h.dep 5 (by kernel_rfl)
      have x5 : ac.tmps[5]?.getD undef = .slice a n cap := by simpa using e5
      have hb := h.base
      refine ⟨wants_none rfl, 105, #[.slice a n cap], ?_, ?_⟩
      · clear h hb e5
        go_simp
      · refine (HR.out w h.base).mono ?_
        intro e w1 hp
        obtain ⟨rfl, hg⟩ := hp
        exact ⟨_, rfl, hg, rfl⟩
    refine ⟨Fg.value rfl fun ac w h => ?_, ?_⟩
    · have e6 : ac.tmps.getD 6 undef = .bool true := h.dep 6 (by kernel_rfl)
      refine ⟨wants_none rfl, .bool true, w, ?_, gb_refl _ _, rfl⟩
      clear h
      simp only [execOp, Act.eval, e6]
      go_simp
    refine ⟨Fg.value rfl fun ac w h => ?_, ?_⟩
    · have e7 : ac.tmps.getD 7 undef = .bool true := h.dep 7 (by kernel_rfl)
      have e3 : ac.tmps.getD 3 undef = .pointer (some ⟨N, 0, none⟩) := h.rest 3 (by kernel_rfl)
      have c1 := (HK.out h.base).1
      have c2 := (HK.out h.base).2
      refine ⟨wants_some (d := 7) rfl rfl (by rw [h.size]; show 7 < 20; decide) e7, .agg #[iV x, iV y], w, ?_, gb_refl _ _, rfl⟩
      clear h
      simp only [execOp, Act.eval, e3]
      go_simp
    refine ⟨Fg.call rfl fun ac w h => ?_, ?_⟩
    · have e7 : ac.tmps.getD 7 undef = .bool true := h.dep 7 (by kernel_rfl)
      have e8 : ac.tmps.getD 8 undef = .agg #[iV x, iV y] := h.dep 8 (by kernel_rfl)
      have x8 : ac.tmps[8]?.getD undef = .agg #[iV x, iV y] := by simpa using e8
      have hb := h.base
      refine ⟨wants_some (d := 7) rfl rfl (by rw [h.size]; show 7 < 20; decide) e7, 104, #[.agg #[iV x, iV y]], ?_, ?_⟩
      · clear h hb e8
        go_simp
      · refine (HD.out w).mono ?_
        intro e w1 hp
        obtain ⟨rfl, hg⟩ := hp
        exact ⟨_, rfl, hg, rfl⟩
    refine ⟨Fg.value rfl fun ac w h => ?_, ?_⟩
    · have e7 : ac.tmps.getD 7 undef = .bool true := h.dep 7 (by kernel_rfl)
      have e9 : ac.tmps.getD 9 undef = .bool false := h.dep 9 (by kernel_rfl)
      refine ⟨wants_none rfl, .bool false, w, ?_, gb_refl _ _, rfl⟩
      clear h
      simp only [execOp, Act.eval, e7, e9]
      go_simp
    refine ⟨Fg.value rfl fun ac w h => ?_, ?_⟩
    · have e10 : ac.tmps.getD 10 undef = .bool false := h.dep 10 (by kernel_rfl)
      refine ⟨wants_none rfl, .bool false, w, ?_, gb_refl _ _, rfl⟩
      clear h
      simp only [execOp, Act.eval, e10]
      go_simp
    refine ⟨Fg.skipped rfl (fun _ => rfl) fun ac w h => ?_, ?_⟩
    · have e11 : ac.tmps.getD 11 undef = .bool false := h.dep 11 (by kernel_rfl)
      exact not_wants (d := 11) rfl rfl (by rw [h.size]; show 11 < 20; decide) e11 (by decide)
    refine ⟨Fg.skipped rfl (fun _ => rfl) fun ac w h => ?_, ?_⟩
    · have e11 : ac.tmps.getD 11 undef = .bool false := h.dep 11 (by kernel_rfl)
      exact not_wants (d := 11) rfl rfl (by rw [h.size]; show 11 < 20; decide) e11 (by decide)
    refine ⟨Fg.skipped rfl (fun _ => rfl) fun ac w h => ?_, ?_⟩
    · have e11 : ac.tmps.getD 11 undef = .bool false := h.dep 11 (by kernel_rfl)
      exact not_wants (d := 11) rfl rfl (by rw [h.size]; show 11 < 20; decide) e11 (by decide)
    refine ⟨Fg.skipped rfl (fun _ => rfl) fun ac w h => ?_, ?_⟩
    · have e11 : ac.tmps.getD 11 undef = .bool false := h.dep 11 (by kernel_rfl)
      exact not_wants (d := 11) rfl rfl (by rw [h.size]; show 11 < 20; decide) e11 (by decide)
    refine ⟨Fg.skipped rfl (fun _ => rfl) fun ac w h => ?_, ?_⟩
    · have e11 : ac.tmps.getD 11 undef = .bool false := h.dep 11 (by kernel_rfl)
      exact not_wants (d := 11) rfl rfl (by rw [h.size]; show 11 < 20; decide) e11 (by decide)
    refine ⟨Fg.skipped rfl (fun _ => rfl) fun ac w h => ?_, ?_⟩
    · have e11 : ac.tmps.getD 11 undef = .bool false := h.dep 11 (by kernel_rfl)
      exact not_wants (d := 11) rfl rfl (by rw [h.size]; show 11 < 20; decide) e11 (by decide)
    refine ⟨Fg.skipped rfl (fun _ => rfl) fun ac w h => ?_, ?_⟩
    · have e11 : ac.tmps.getD 11 undef = .bool false := h.dep 11 (by kernel_rfl)
      exact not_wants (d := 11) rfl rfl (by rw [h.size]; show 11 < 20; decide) e11 (by decide)
    refine ⟨Fg.value rfl fun ac w h => ?_, ?_⟩
    · have e11 : ac.tmps.getD 11 undef = .bool false := h.dep 11 (by kernel_rfl)
      refine ⟨wants_none rfl, .bool false, w, ?_, gb_refl _ _, rfl⟩
      clear h
      simp only [execOp, Act.eval, e11]
      go_simp
    refine ⟨Fg.value rfl fun ac w h => ?_, ?_⟩
    · have e19 : ac.tmps.getD 19 undef = .bool false := h.dep 19 (by kernel_rfl)
      refine ⟨wants_none rfl, .bool false, w, ?_, gb_refl _ _, rfl⟩
      clear h
      simp only [execOp, Act.eval, e19]
      go_simp
    trivial
  · intro aq wq hB hsz hdf hrest hslots _
    obtain ⟨u5, hs5⟩ : ∃ u, aq.tmps.getD 5 undef = u := ⟨_, rfl⟩
    obtain ⟨u6, hs6⟩ : ∃ u, aq.tmps.getD 6 undef = u := ⟨_, rfl⟩
    obtain ⟨u7, hs7⟩ : ∃ u, aq.tmps.getD 7 undef = u := ⟨_, rfl⟩
    obtain ⟨u8, hs8⟩ : ∃ u, aq.tmps.getD 8 undef = u := ⟨_, rfl⟩
    obtain ⟨u9, hs9⟩ : ∃ u, aq.tmps.getD 9 undef = u := ⟨_, rfl⟩
    obtain ⟨u10, hs10⟩ : ∃ u, aq.tmps.getD 10 undef = u := ⟨_, rfl⟩
    obtain ⟨u11, hs11⟩ : ∃ u, aq.tmps.getD 11 undef = u := ⟨_, rfl⟩
    obtain ⟨u12, hs12⟩ : ∃ u, aq.tmps.getD 12 undef = u := ⟨_, rfl⟩
    obtain ⟨u13, hs13⟩ : ∃ u, aq.tmps.getD 13 undef = u := ⟨_, rfl⟩
    obtain ⟨u14, hs14⟩ : ∃ u, aq.tmps.getD 14 undef = u := ⟨_, rfl⟩
    obtain ⟨u15, hs15⟩ : ∃ u, aq.tmps.getD 15 undef = u := ⟨_, rfl⟩
    obtain ⟨u16, hs16⟩ : ∃ u, aq.tmps.getD 16 undef = u := ⟨_, rfl⟩
    obtain ⟨u17, hs17⟩ : ∃ u, aq.tmps.getD 17 undef = u := ⟨_, rfl⟩
    obtain ⟨u18, hs18⟩ : ∃ u, aq.tmps.getD 18 undef = u := ⟨_, rfl⟩
    obtain ⟨u19, hs19⟩ : ∃ u, aq.tmps.getD 19 undef = u := ⟨_, rfl⟩
    obtain rfl := Fg.frame_is (a := aq) (vs := [Value.slice a n cap, Value.agg #[iV x, iV y], undef, Value.pointer (some ⟨N, 0, none⟩), Value.bool false, u5, u6, u7, u8, u9, u10, u11, u12, u13, u14, u15, u16, u17, u18, u19]) hsz ⟨hrest 0 (by kernel_rfl), hrest 1 (by kernel_rfl), hrest 2 (by kernel_rfl), hrest 3 (by kernel_rfl), (show aq.tmps.getD 4 undef = Value.bool false from hslots 4 (by kernel_rfl)), hs5, hs6, hs7, hs8, hs9, hs10, hs11, hs12, hs13, hs14, hs15, hs16, hs17, hs18, hs19, trivial⟩ hdf
    have HB0 := Lib.hid hB
    clear hB hsz hdf hrest hslots hs5 hs6 hs7 hs8 hs9 hs10 hs11 hs12 hs13 hs14 hs15 hs16 hs17 hs18 hs19
    go_wp2
    exact HQ.out _ HB0.out
set_option maxHeartbeats 1000000 in
theorem refHas_C (n cap : Nat) (a : Option Addr) (x y u : Int) (w W1 : World) (N : Nat) (Q : Ending → World → Prop) (hN : N = w.heap.size) (hW1 : W1 = w.alloc (.cells #[iV x, iV y] 99))
    (hR : ∀ W, W1.grownBy W none → Calls Tryz.prog 105 #[.slice a n cap] W fun e w' => e = .returned (.bool true) ∧ W.grownBy w' none)
    (hD : ∀ W, Calls Tryz.prog 104 #[.agg #[iV x, iV y]] W (BOut W true))
    (hU : ∀ W, W1.grownBy W none → Calls Tryz.prog 107 #[.slice a n cap, iV x] W fun e w' => e = .returned (iV u) ∧ W.grownBy w' none)
    (hy : decide (y ≤ u) = true)
    (hQ : ∀ w', W1.grownBy w' none → Q (.returned (.bool true)) w') : Calls Tryz.prog 64 #[.slice a n cap, .agg #[iV x, iV y]] w Q := by
  have HR := Lib.hid hR; clear hR
  have HD := Lib.hid hD; clear hD
  have HU := Lib.hid hU; clear hU
  have HQ := Lib.hid hQ; clear hQ
  have HK : Hid (∀ {w' : World}, W1.grownBy w' none → w'.cell? ⟨N, 0, none⟩ = some (iV x) ∧ w'.cell? ⟨N, 1, none⟩ = some (iV y)) := fun {w'} hg => by
    have hB : Blk W1 N 99 [iV x, iV y] := by rw [hW1, hN]; exact Blk.new w _ _
    have hB2 := hB.grown hg (by simp)
    exact ⟨hB2.cell (i := 0) rfl, hB2.cell (i := 1) rfl⟩
  go_enter Tryz.func64, Tryz.ntmps64
  go_wp2_with fail
  rw [← hW1, ← hN]
  clear hW1 hN
  refine wp_region_flow3 (Fg.its [.any, .any, .any, .any, .val (.bool true), .val (.slice a n cap), .val (.bool true), .val (.bool true), .val (.agg #[iV x, iV y]), .val (.bool true), .val (.bool true), .val (.bool true), .val (.slice a n cap), .val (.pointer (some ⟨N, 0, none⟩)), .val (iV x), .val (iV u), .val (.pointer (some ⟨N, 1, none⟩)), .val (iV y), .val (.bool true), .val (.bool true)]) (fun _ => 0) (fun _ _ _ => True) (fun w => World.grownBy W1 w none) [] (by kernel_rfl) (by kernel_rfl) (by kernel_rfl) (gb_drew (gb_refl _ _)) (Fg.ptrs_nil _ _) (Fg.no_store (by kernel_rfl)) ?_ ?_
  · refine ⟨Fg.value rfl fun ac w h => ?_, ?_⟩
    · have e0 : ac.tmps.getD 0 undef = .slice a n cap := h.rest 0 (by kernel_rfl)
      refine ⟨wants_none rfl, .slice a n cap, w, ?_, gb_refl _ _, rfl⟩
      clear h
      simp only [execOp, Act.eval, e0]
      go_simp
    refine ⟨Fg.call rfl fun ac w h => ?_, ?_⟩
    · have e5 : ac.tmps.getD 5 undef = .slice a n cap := h.dep 5 (by kernel_rfl)
      have x5 : ac.tmps[5]?.getD undef = .slice a n cap := by simpa using e5
      have hb := h.base
      refine ⟨wants_none rfl, 105, #[.slice a n cap], ?_, ?_⟩
      · clear h hb e5
        go_simp
      · refine (HR.out w h.base).mono ?_
        intro e w1 hp
        obtain ⟨rfl, hg⟩ := hp
        exact ⟨_, rfl, hg, rfl⟩
    refine ⟨Fg.value rfl fun ac w h => ?_, ?_⟩
    · have e6 : ac.tmps.getD 6 undef = .bool true := h.dep 6 (by kernel_rfl)
      refine ⟨wants_none rfl, .bool true, w, ?_, gb_refl _ _, rfl⟩
      clear h
      simp only [execOp, Act.eval, e6]
      go_simp
    refine ⟨Fg.value rfl fun ac w h => ?_, ?_⟩
    · have e7 : ac.tmps.getD 7 undef = .bool true := h.dep 7 (by kernel_rfl)
      have e3 : ac.tmps.getD 3 undef = .pointer (some ⟨N, 0, none⟩) := h.rest 3 (by kernel_rfl)
      have c1 := (HK.out h.base).1
      have c2 := (HK.out h.base).2
      refine ⟨wants_some (d := 7) rfl rfl (by rw [h.size]; show 7 < 20; decide) e7, .agg #[iV x, iV y], w, ?_, gb_refl _ _, rfl⟩
      clear h
      simp only [execOp, Act.eval, e3]
      go_simp
    refine ⟨Fg.call rfl fun ac w h => ?_, ?_⟩
    · have e7 : ac.tmps.getD 7 undef = .bool true := h.dep 7 (by kernel_rfl)
      have e8 : ac.tmps.getD 8 undef = .agg #[iV x, iV y] := h.dep 8 (by kernel_rfl)
      have x8 : ac.tmps[8]?.getD undef = .agg #[iV x, iV y] := by simpa using e8
      have hb := h.base
      refine ⟨wants_some (d := 7) rfl rfl (by rw [h.size]; show 7 < 20; decide) e7, 104, #[.agg #[iV x, iV y]], ?_, ?_⟩
      · clear h hb e8
        go_simp
      · refine (HD.out w).mono ?_
        intro e w1 hp
        obtain ⟨rfl, hg⟩ := hp
        exact ⟨_, rfl, hg, rfl⟩
    refine ⟨Fg.value rfl fun ac w h => ?_, ?_⟩
    · have e7 : ac.tmps.getD 7 undef = .bool true := h.dep 7 (by kernel_rfl)
      have e9 : ac.tmps.getD 9 undef = .bool true := h.dep 9 (by kernel_rfl)
      refine ⟨wants_none rfl, .bool true, w, ?_, gb_refl _ _, rfl⟩
      clear h
      simp only [execOp, Act.eval, e7, e9]
      go_simp
    refine ⟨Fg.value rfl fun ac w h => ?_, ?_⟩
    · have e10 : ac.tmps.getD 10 undef = .bool true := h.dep 10 (by kernel_rfl)
      refine ⟨wants_none rfl, .bool true, w, ?_, gb_refl _ _, rfl⟩
      clear h
      simp only [execOp, Act.eval, e10]
      go_simp
    refine ⟨Fg.value rfl fun ac w h => ?_, ?_⟩
    · have e11 : ac.tmps.getD 11 undef = .bool true := h.dep 11 (by kernel_rfl)
      have e0 : ac.tmps.getD 0 undef = .slice a n cap := h.rest 0 (by kernel_rfl)
      refine ⟨wants_some (d := 11) rfl rfl (by rw [h.size]; show 11 < 20; decide) e11, .slice a n cap, w, ?_, gb_refl _ _, rfl⟩
      clear h
      simp only [execOp, Act.eval, e0]
      go_simp
    refine ⟨Fg.value rfl fun ac w h => ?_, ?_⟩
    · have e11 : ac.tmps.getD 11 undef = .bool true := h.dep 11 (by kernel_rfl)
      have e3 : ac.tmps.getD 3 undef = .pointer (some ⟨N, 0, none⟩) := h.rest 3 (by kernel_rfl)
      refine ⟨wants_some (d := 11) rfl rfl (by rw [h.size]; show 11 < 20; decide) e11, .pointer (some ⟨N, 0, none⟩), w, ?_, gb_refl _ _, rfl⟩
      clear h
      simp only [execOp, Act.eval, e3]
      go_simp
    refine ⟨Fg.value rfl fun ac w h => ?_, ?_⟩
    · have e11 : ac.tmps.getD 11 undef = .bool true := h.dep 11 (by kernel_rfl)
      have e13 : ac.tmps.getD 13 undef = .pointer (some ⟨N, 0, none⟩) := h.dep 13 (by kernel_rfl)
      have c1 := (HK.out h.base).1
      have c2 := (HK.out h.base).2
      refine ⟨wants_some (d := 11) rfl rfl (by rw [h.size]; show 11 < 20; decide) e11, iV x, w, ?_, gb_refl _ _, rfl⟩
      clear h
      simp only [execOp, Act.eval, e13]
      go_simp
    refine ⟨Fg.call rfl fun ac w h => ?_, ?_⟩
    · have e11 : ac.tmps.getD 11 undef = .bool true := h.dep 11 (by kernel_rfl)
      have e12 : ac.tmps.getD 12 undef = .slice a n cap := h.dep 12 (by kernel_rfl)
      have x12 : ac.tmps[12]?.getD undef = .slice a n cap := by simpa using e12
      have e14 : ac.tmps.getD 14 undef = iV x := h.dep 14 (by kernel_rfl)
      have x14 : ac.tmps[14]?.getD undef = iV x := by simpa using e14
      have hb := h.base
      refine ⟨wants_some (d := 11) rfl rfl (by rw [h.size]; show 11 < 20; decide) e11, 107, #[.slice a n cap, iV x], ?_, ?_⟩
      · clear h hb e12 e14
        go_simp
      · refine (HU.out w h.base).mono ?_
        intro e w1 hp
        obtain ⟨rfl, hg⟩ := hp
        exact ⟨_, rfl, hg, rfl⟩
    refine ⟨Fg.value rfl fun ac w h => ?_, ?_⟩
    · have e11 : ac.tmps.getD 11 undef = .bool true := h.dep 11 (by kernel_rfl)
      have e3 : ac.tmps.getD 3 undef = .pointer (some ⟨N, 0, none⟩) := h.rest 3 (by kernel_rfl)
      refine ⟨wants_some (d := 11) rfl rfl (by rw [h.size]; show 11 < 20; decide) e11, .pointer (some ⟨N, 1, none⟩), w, ?_, gb_refl _ _, rfl⟩
      clear h
      simp only [execOp, Act.eval, e3]
      go_simp
    refine ⟨Fg.value rfl fun ac w h => ?_, ?_⟩
    · have e11 : ac.tmps.getD 11 undef = .bool true := h.dep 11 (by kernel_rfl)
      have e16 : ac.tmps.getD 16 undef = .pointer (some ⟨N, 1, none⟩) := h.dep 16 (by kernel_rfl)
      have c1 := (HK.out h.base).1
      have c2 := (HK.out h.base).2
      refine ⟨wants_some (d := 11) rfl rfl (by rw [h.size]; show 11 < 20; decide) e11, iV y, w, ?_, gb_refl _ _, rfl⟩
      clear h
      simp only [execOp, Act.eval, e16]
      go_simp
    refine ⟨Fg.value rfl fun ac w h => ?_, ?_⟩
    · have e11 : ac.tmps.getD 11 undef = .bool true := h.dep 11 (by kernel_rfl)
      have e15 : ac.tmps.getD 15 undef = iV u := h.dep 15 (by kernel_rfl)
      have e17 : ac.tmps.getD 17 undef = iV y := h.dep 17 (by kernel_rfl)
      refine ⟨wants_some (d := 11) rfl rfl (by rw [h.size]; show 11 < 20; decide) e11, .bool true, w, ?_, gb_refl _ _, rfl⟩
      clear h
      simp only [execOp, Act.eval, e15, e17]
      go_simp
    refine ⟨Fg.value rfl fun ac w h => ?_, ?_⟩
    · have e11 : ac.tmps.getD 11 undef = .bool true := h.dep 11 (by kernel_rfl)
      have e18 : ac.tmps.getD 18 undef = .bool true := h.dep 18 (by kernel_rfl)
      refine ⟨wants_none rfl, .bool true, w, ?_, gb_refl _ _, rfl⟩
      clear h
      simp only [execOp, Act.eval, e11, e18]
      go_simp
    refine ⟨Fg.value rfl fun ac w h => ?_, ?_⟩
    · have e19 : ac.tmps.getD 19 undef = .bool true := h.dep 19 (by kernel_rfl)
      refine ⟨wants_none rfl, .bool true, w, ?_, gb_refl _ _, rfl⟩
      clear h
      simp only [execOp, Act.eval, e19]
      go_simp
    trivial
  · intro aq wq hB hsz hdf hrest hslots _
    obtain ⟨u5, hs5⟩ : ∃ u, aq.tmps.getD 5 undef = u := ⟨_, rfl⟩
    obtain ⟨u6, hs6⟩ : ∃ u, aq.tmps.getD 6 undef = u := ⟨_, rfl⟩
    obtain ⟨u7, hs7⟩ : ∃ u, aq.tmps.getD 7 undef = u := ⟨_, rfl⟩
    obtain ⟨u8, hs8⟩ : ∃ u, aq.tmps.getD 8 undef = u := ⟨_, rfl⟩
    obtain ⟨u9, hs9⟩ : ∃ u, aq.tmps.getD 9 undef = u := ⟨_, rfl⟩
    obtain ⟨u10, hs10⟩ : ∃ u, aq.tmps.getD 10 undef = u := ⟨_, rfl⟩
    obtain ⟨u11, hs11⟩ : ∃ u, aq.tmps.getD 11 undef = u := ⟨_, rfl⟩
    obtain ⟨u12, hs12⟩ : ∃ u, aq.tmps.getD 12 undef = u := ⟨_, rfl⟩
    obtain ⟨u13, hs13⟩ : ∃ u, aq.tmps.getD 13 undef = u := ⟨_, rfl⟩
    obtain ⟨u14, hs14⟩ : ∃ u, aq.tmps.getD 14 undef = u := ⟨_, rfl⟩
    obtain ⟨u15, hs15⟩ : ∃ u, aq.tmps.getD 15 undef = u := ⟨_, rfl⟩
    obtain ⟨u16, hs16⟩ : ∃ u, aq.tmps.getD 16 undef = u := ⟨_, rfl⟩
    obtain ⟨u17, hs17⟩ : ∃ u, aq.tmps.getD 17 undef = u := ⟨_, rfl⟩
    obtain ⟨u18, hs18⟩ : ∃ u, aq.tmps.getD 18 undef = u := ⟨_, rfl⟩
    obtain ⟨u19, hs19⟩ : ∃ u, aq.tmps.getD 19 undef = u := ⟨_, rfl⟩
    obtain rfl := Fg.frame_is (a := aq) (vs := [Value.slice a n cap, Value.agg #[iV x, iV y], undef, Value.pointer (some ⟨N, 0, none⟩), Value.bool true, u5, u6, u7, u8, u9, u10, u11, u12, u13, u14, u15, u16, u17, u18, u19]) hsz ⟨hrest 0 (by kernel_rfl), hrest 1 (by kernel_rfl), hrest 2 (by kernel_rfl), hrest 3 (by kernel_rfl), (show aq.tmps.getD 4 undef = Value.bool true from hslots 4 (by kernel_rfl)), hs5, hs6, hs7, hs8, hs9, hs10, hs11, hs12, hs13, hs14, hs15, hs16, hs17, hs18, hs19, trivial⟩ hdf
    have HB0 := Lib.hid hB
    clear hB hsz hdf hrest hslots hs5 hs6 hs7 hs8 hs9 hs10 hs11 hs12 hs13 hs14 hs15 hs16 hs17 hs18 hs19
    go_wp2
    exact HQ.out _ HB0.out
set_option maxHeartbeats 1000000 in
theorem refHas_E (n cap : Nat) (a : Option Addr) (x y u : Int) (w W1 : World) (N : Nat) (Q : Ending → World → Prop) (hN : N = w.heap.size) (hW1 : W1 = w.alloc (.cells #[iV x, iV y] 99))
    (hR : ∀ W, W1.grownBy W none → Calls Tryz.prog 105 #[.slice a n cap] W fun e w' => e = .returned (.bool true) ∧ W.grownBy w' none)
    (hD : ∀ W, Calls Tryz.prog 104 #[.agg #[iV x, iV y]] W (BOut W true))
    (hU : ∀ W, W1.grownBy W none → Calls Tryz.prog 107 #[.slice a n cap, iV x] W fun e w' => e = .returned (iV u) ∧ W.grownBy w' none)
    (hy : decide (y ≤ u) = false)
    (hQ : ∀ w', W1.grownBy w' none → Q (.returned (.bool false)) w') : Calls Tryz.prog 64 #[.slice a n cap, .agg #[iV x, iV y]] w Q := by
  have HR := Lib.hid hR; clear hR
  have HD := Lib.hid hD; clear hD
  have HU := Lib.hid hU; clear hU
  have HQ := Lib.hid hQ; clear hQ
  have HK : Hid (∀ {w' : World}, W1.grownBy w' none → w'.cell? ⟨N, 0, none⟩ = some (iV x) ∧ w'.cell? ⟨N, 1, none⟩ = some (iV y)) := fun {w'} hg => by
    have hB : Blk W1 N 99 [iV x, iV y] := by rw [hW1, hN]; exact Blk.new w _ _
    have hB2 := hB.grown hg (by simp)
    exact ⟨hB2.cell (i := 0) rfl, hB2.cell (i := 1) rfl⟩
  go_enter Tryz.func64, Tryz.ntmps64
  go_wp2_with fail
  rw [← hW1, ← hN]
  clear hW1 hN
  refine wp_region_flow3 (Fg.its [.any, .any, .any, .any, .val (.bool false), .val (.slice a n cap), .val (.bool true), .val (.bool true), .val (.agg #[iV x, iV y]), .val (.bool true), .val (.bool true), .val (.bool true), .val (.slice a n cap), .val (.pointer (some ⟨N, 0, none⟩)), .val (iV x), .val (iV u), .val (.pointer (some ⟨N, 1, none⟩)), .val (iV y), .val (.bool false), .val (.bool false)]) (fun _ => 0) (fun _ _ _ => True) (fun w => World.grownBy W1 w none) [] (by kernel_rfl) (by kernel_rfl) (by kernel_rfl) (gb_drew (gb_refl _ _)) (Fg.ptrs_nil _ _) (Fg.no_store (by kernel_rfl)) ?_ ?_
  · refine ⟨Fg.value rfl fun ac w h => ?_, ?_⟩
    · have e0 : ac.tmps.getD 0 undef = .slice a n cap := h.rest 0 (by kernel_rfl)
      refine ⟨wants_none rfl, .slice a n cap, w, ?_, gb_refl _ _, rfl⟩
      clear h
      simp only [execOp, Act.eval, e0]
      go_simp
    refine ⟨Fg.call rfl fun ac w h => ?_, ?_⟩
    · have e5 : ac.tmps.getD 5 undef = .slice a n cap := h.dep 5 (by kernel_rfl)
      have x5 : ac.tmps[5]?.getD undef = .slice a n cap := by simpa using e5
      have hb := h.base
      refine ⟨wants_none rfl, 105, #[.slice a n cap], ?_, ?_⟩
      · clear h hb e5
        go_simp
      · refine (HR.out w h.base).mono ?_
        intro e w1 hp
        obtain ⟨rfl, hg⟩ := hp
        exact ⟨_, rfl, hg, rfl⟩
    refine ⟨Fg.value rfl fun ac w h => ?_, ?_⟩
    · have e6 : ac.tmps.getD 6 undef = .bool true := h.dep 6 (by kernel_rfl)
      refine ⟨wants_none rfl, .bool true, w, ?_, gb_refl _ _, rfl⟩
      clear h
      simp only [execOp, Act.eval, e6]
      go_simp
    refine ⟨Fg.value rfl fun ac w h => ?_, ?_⟩
    · have e7 : ac.tmps.getD 7 undef = .bool true := h.dep 7 (by kernel_rfl)
      have e3 : ac.tmps.getD 3 undef = .pointer (some ⟨N, 0, none⟩) := h.rest 3 (by kernel_rfl)
      have c1 := (HK.out h.base).1
      have c2 := (HK.out h.base).2
      refine ⟨wants_some (d := 7) rfl rfl (by rw [h.size]; show 7 < 20; decide) e7, .agg #[iV x, iV y], w, ?_, gb_refl _ _, rfl⟩
      clear h
      simp only [execOp, Act.eval, e3]
      go_simp
    refine ⟨Fg.call rfl fun ac w h => ?_, ?_⟩
    · have e7 : ac.tmps.getD 7 undef = .bool true := h.dep 7 (by kernel_rfl)
      have e8 : ac.tmps.getD 8 undef = .agg #[iV x, iV y] := h.dep 8 (by kernel_rfl)
      have x8 : ac.tmps[8]?.getD undef = .agg #[iV x, iV y] := by simpa using e8
      have hb := h.base
      refine ⟨wants_some (d := 7) rfl rfl (by rw [h.size]; show 7 < 20; decide) e7, 104, #[.agg #[iV x, iV y]], ?_, ?_⟩
      · clear h hb e8
        go_simp
      · refine (HD.out w).mono ?_
        intro e w1 hp
        obtain ⟨rfl, hg⟩ := hp
        exact ⟨_, rfl, hg, rfl⟩
    refine ⟨Fg.value rfl fun ac w h => ?_, ?_⟩
    · have e7 : ac.tmps.getD 7 undef = .bool true := h.dep 7 (by kernel_rfl)
      have e9 : ac.tmps.getD 9 undef = .bool true := h.dep 9 (by kernel_rfl)
      refine ⟨wants_none rfl, .bool true, w, ?_, gb_refl _ _, rfl⟩
      clear h
      simp only [execOp, Act.eval, e7, e9]
      go_simp
    refine ⟨Fg.value rfl fun ac w h => ?_, ?_⟩
    · have e10 : ac.tmps.getD 10 undef = .bool true := h.dep 10 (by kernel_rfl)
      refine ⟨wants_none rfl, .bool true, w, ?_, gb_refl _ _, rfl⟩
      clear h
      simp only [execOp, Act.eval, e10]
      go_simp
    refine ⟨Fg.value rfl fun ac w h => ?_, ?_⟩
    · have e11 : ac.tmps.getD 11 undef = .bool true := h.dep 11 (by kernel_rfl)
      have e0 : ac.tmps.getD 0 undef = .slice a n cap := h.rest 0 (by kernel_rfl)
      refine ⟨wants_some (d := 11) rfl rfl (by rw [h.size]; show 11 < 20; decide) e11, .slice a n cap, w, ?_, gb_refl _ _, rfl⟩
      clear h
      simp only [execOp, Act.eval, e0]
      go_simp
    refine ⟨Fg.value rfl fun ac w h => ?_, ?_⟩
    · have e11 : ac.tmps.getD 11 undef = .bool true := h.dep 11 (by kernel_rfl)
      have e3 : ac.tmps.getD 3 undef = .pointer (some ⟨N, 0, none⟩) := h.rest 3 (by kernel_rfl)
      refine ⟨wants_some (d := 11) rfl rfl (by rw [h.size]; show 11 < 20; decide) e11, .pointer (some ⟨N, 0, none⟩), w, ?_, gb_refl _ _, rfl⟩
      clear h
      simp only [execOp, Act.eval, e3]
      go_simp
    refine ⟨Fg.value rfl fun ac w h => ?_, ?_⟩
    · have e11 : ac.tmps.getD 11 undef = .bool true := h.dep 11 (by kernel_rfl)
      have e13 : ac.tmps.getD 13 undef = .pointer (some ⟨N, 0, none⟩) := h.dep 13 (by kernel_rfl)
      have c1 := (HK.out h.base).1
      have c2 := (HK.out h.base).2
      refine ⟨wants_some (d := 11) rfl rfl (by rw [h.size]; show 11 < 20; decide) e11, iV x, w, ?_, gb_refl _ _, rfl⟩
      clear h
      simp only [execOp, Act.eval, e13]
      go_simp
    refine ⟨Fg.call rfl fun ac w h => ?_, ?_⟩
    · have e11 : ac.tmps.getD 11 undef = .bool true := h.dep 11 (by kernel_rfl)
      have e12 : ac.tmps.getD 12 undef = .slice a n cap := h.dep 12 (by kernel_rfl)
      have x12 : ac.tmps[12]?.getD undef = .slice a n cap := by simpa using e12
      have e14 : ac.tmps.getD 14 undef = iV x := h.dep 14 (by kernel_rfl)
      have x14 : ac.tmps[14]?.getD undef = iV x := by simpa using e14
      have hb := h.base
      refine ⟨wants_some (d := 11) rfl rfl (by rw [h.size]; show 11 < 20; decide) e11, 107, #[.slice a n cap, iV x], ?_, ?_⟩
      · clear h hb e12 e14
        go_simp
      · refine (HU.out w h.base).mono ?_
        intro e w1 hp
        obtain ⟨rfl, hg⟩ := hp
        exact ⟨_, rfl, hg, rfl⟩
    refine ⟨Fg.value rfl fun ac w h => ?_, ?_⟩
    · have e11 : ac.tmps.getD 11 undef = .bool true := h.dep 11 (by kernel_rfl)
      have e3 : ac.tmps.getD 3 undef = .pointer (some ⟨N, 0, none⟩) := h.rest 3 (by kernel_rfl)
      refine ⟨wants_some (d := 11) rfl rfl (by rw [h.size]; show 11 < 20; decide) e11, .pointer (some ⟨N, 1, none⟩), w, ?_, gb_refl _ _, rfl⟩
      clear h
      simp only [execOp, Act.eval, e3]
      go_simp
    refine ⟨Fg.value rfl fun ac w h => ?_, ?_⟩
    · have e11 : ac.tmps.getD 11 undef = .bool true := h.dep 11 (by kernel_rfl)
      have e16 : ac.tmps.getD 16 undef = .pointer (some ⟨N, 1, none⟩) := h.dep 16 (by kernel_rfl)
      have c1 := (HK.out h.base).1
      have c2 := (HK.out h.base).2
      refine ⟨wants_some (d := 11) rfl rfl (by rw [h.size]; show 11 < 20; decide) e11, iV y, w, ?_, gb_refl _ _, rfl⟩
      clear h
      simp only [execOp, Act.eval, e16]
      go_simp
    refine ⟨Fg.value rfl fun ac w h => ?_, ?_⟩
    · have e11 : ac.tmps.getD 11 undef = .bool true := h.dep 11 (by kernel_rfl)
      have e15 : ac.tmps.getD 15 undef = iV u := h.dep 15 (by kernel_rfl)
      have e17 : ac.tmps.getD 17 undef = iV y := h.dep 17 (by kernel_rfl)
      refine ⟨wants_some (d := 11) rfl rfl (by rw [h.size]; show 11 < 20; decide) e11, .bool false, w, ?_, gb_refl _ _, rfl⟩
      clear h
      simp only [execOp, Act.eval, e15, e17]
      go_simp
    refine ⟨Fg.value rfl fun ac w h => ?_, ?_⟩
    · have e11 : ac.tmps.getD 11 undef = .bool true := h.dep 11 (by kernel_rfl)
      have e18 : ac.tmps.getD 18 undef = .bool false := h.dep 18 (by kernel_rfl)
      refine ⟨wants_none rfl, .bool false, w, ?_, gb_refl _ _, rfl⟩
      clear h
      simp only [execOp, Act.eval, e11, e18]
      go_simp
    refine ⟨Fg.value rfl fun ac w h => ?_, ?_⟩
    · have e19 : ac.tmps.getD 19 undef = .bool false := h.dep 19 (by kernel_rfl)
      refine ⟨wants_none rfl, .bool false, w, ?_, gb_refl _ _, rfl⟩
      clear h
      simp only [execOp, Act.eval, e19]
      go_simp
    trivial
  · intro aq wq hB hsz hdf hrest hslots _
    obtain ⟨u5, hs5⟩ : ∃ u, aq.tmps.getD 5 undef = u := ⟨_, rfl⟩
    obtain ⟨u6, hs6⟩ : ∃ u, aq.tmps.getD 6 undef = u := ⟨_, rfl⟩
    obtain ⟨u7, hs7⟩ : ∃ u, aq.tmps.getD 7 undef = u := ⟨_, rfl⟩
    obtain ⟨u8, hs8⟩ : ∃ u, aq.tmps.getD 8 undef = u := ⟨_, rfl⟩
    obtain ⟨u9, hs9⟩ : ∃ u, aq.tmps.getD 9 undef = u := ⟨_, rfl⟩
    obtain ⟨u10, hs10⟩ : ∃ u, aq.tmps.getD 10 undef = u := ⟨_, rfl⟩
    obtain ⟨u11, hs11⟩ : ∃ u, aq.tmps.getD 11 undef = u := ⟨_, rfl⟩
    obtain ⟨u12, hs12⟩ : ∃ u, aq.tmps.getD 12 undef = u := ⟨_, rfl⟩
    obtain ⟨u13, hs13⟩ : ∃ u, aq.tmps.getD 13 undef = u := ⟨_, rfl⟩
    obtain ⟨u14, hs14⟩ : ∃ u, aq.tmps.getD 14 undef = u := ⟨_, rfl⟩
    obtain ⟨u15, hs15⟩ : ∃ u, aq.tmps.getD 15 undef = u := ⟨_, rfl⟩
    obtain ⟨u16, hs16⟩ : ∃ u, aq.tmps.getD 16 undef = u := ⟨_, rfl⟩
    obtain ⟨u17, hs17⟩ : ∃ u, aq.tmps.getD 17 undef = u := ⟨_, rfl⟩
    obtain ⟨u18, hs18⟩ : ∃ u, aq.tmps.getD 18 undef = u := ⟨_, rfl⟩
    obtain ⟨u19, hs19⟩ : ∃ u, aq.tmps.getD 19 undef = u := ⟨_, rfl⟩
    obtain rfl := Fg.frame_is (a := aq) (vs := [Value.slice a n cap, Value.agg #[iV x, iV y], undef, Value.pointer (some ⟨N, 0, none⟩), Value.bool false, u5, u6, u7, u8, u9, u10, u11, u12, u13, u14, u15, u16, u17, u18, u19]) hsz ⟨hrest 0 (by kernel_rfl), hrest 1 (by kernel_rfl), hrest 2 (by kernel_rfl), hrest 3 (by kernel_rfl), (show aq.tmps.getD 4 undef = Value.bool false from hslots 4 (by kernel_rfl)), hs5, hs6, hs7, hs8, hs9, hs10, hs11, hs12, hs13, hs14, hs15, hs16, hs17, hs18, hs19, trivial⟩ hdf
    have HB0 := Lib.hid hB
    clear hB hsz hdf hrest hslots hs5 hs6 hs7 hs8 hs9 hs10 hs11 hs12 hs13 hs14 hs15 hs16 hs17 hs18 hs19
    go_wp2
    exact HQ.out _ HB0.out
theorem refHas_any (B n cap : Nat) (a : Option Addr) (l : List D) (x y : Int) (w : World) (hn : l.length = n) (h : DotsAt w B a l) (hc : n < 9223372036854775808) :
    Calls Tryz.prog 64 #[.slice a n cap, .agg #[iV x, iV y]] w (BOut w (hasB l (x, y))) := by
  have hg0 : w.grownBy (w.alloc (.cells #[iV x, iV y] 99)) none := gb_alloc (gb_refl _ _) _
  have hR := fun W (hg : (w.alloc (.cells #[iV x, iV y] 99)).grownBy W none) => refRight_any B n cap a l W hn (h.stay (gb_trans hg0 hg)) hc
  have hU := fun W (hg : (w.alloc (.cells #[iV x, iV y] 99)).grownBy W none) => (refUp_any B n cap a l x W hn (h.stay (gb_trans hg0 hg)) hc).mono (R' := fun e w' => e = .returned (iV (up l x)) ∧ W.grownBy w' none) (fun e w' hh => ⟨hh.1, by rw [← hh.2]; exact gb_refl _ _⟩)
  unfold hasB
  cases hr : rtB 0 l with
  | false =>
    rw [hr] at hR
    exact refHas_A n cap a x y w _ _ _ rfl rfl hR (fun w' hg => ⟨rfl, gb_trans hg0 hg⟩)
  | true =>
    rw [hr] at hR
    cases hd : okD (x, y) with
    | false => exact refHas_B n cap a x y w _ _ _ rfl rfl hR (fun W => refDot_any false x y W hd) (fun w' hg => ⟨rfl, gb_trans hg0 hg⟩)
    | true =>
      cases hy : decide (y ≤ up l x) with
      | true => exact refHas_C n cap a x y (up l x) w _ _ _ rfl rfl hR (fun W => refDot_any true x y W hd) hU hy (fun w' hg => ⟨rfl, gb_trans hg0 hg⟩)
      | false => exact refHas_E n cap a x y (up l x) w _ _ _ rfl rfl hR (fun W => refDot_any true x y W hd) hU hy (fun w' hg => ⟨rfl, gb_trans hg0 hg⟩)
end Ve
end Go.Proofs.YtohcoihdijemfaaGreat

/- The document's record (buttressref08): Shape, Right, Text, Put. (Printed by gen_rcref.py.) -/
namespace Go.Proofs.YtohcoihdijemfaaGreat
open Go.RowKit Ow Wi Ve
namespace Rc
theorem box1 (w : World) (T : TypeId) (L : List Value) : Blk (w.alloc (.cells L.toArray T)) w.heap.size T L ∧ w.grownBy (w.alloc (.cells L.toArray T)) none := ⟨Blk.new w L T, gb_alloc (gb_refl _ _) _⟩
set_option maxHeartbeats 4000000 in
theorem refShape_any (b : Bool) (r : R) (B : Nat) (w : World) (q : L) (h : RAt w B q r) (hb : shapeB r = b) :
    Calls Tryz.prog 61 #[q.v r] w fun e w' => e = .returned (.bool b) ∧ w.grownBy w' none := by
  have HO := Lib.hid (fun w' => refDot_any (okD r.dot) r.cl r.sq w' rfl)
  have HR := Lib.hid (fun w' (hg : w.grownBy w' none) => refRight_any B q.n1 q.c1 q.a1 r.cx w' h.l1 (h.dots.stay hg) h.top)
  have HH := Lib.hid (fun w' (hg : w.grownBy w' none) => refHas_any B q.n1 q.c1 q.a1 r.cx r.cl r.sq w' h.l1 (h.dots.stay hg) h.top)
  have hk := h.keyLen
  have hv := h.l2
  clear h
  have hb' : (keyB r && (okD r.dot && rtB 0 r.cx && !hasB r.cx (r.cl, r.sq)) && valB r) = b := hb
  clear hb
  unfold keyB valB at hb'
  rw [hk, hv] at hb'
  clear hk hv
  generalize okD r.dot = x at *
  generalize rtB 0 r.cx = y at *
  generalize hasB r.cx (r.cl, r.sq) = z at *
  obtain ⟨s, a1, n1, c1, a2, n2, c2, a3, n3, c3⟩ := q
  obtain ⟨key, cl, sq, cx, g, val, sig⟩ := r
  simp only at hb' HO HR HH
  show Calls _ _ #[vV s cl sq a1 n1 c1 g a2 n2 c2 a3 n3 c3] w _
  obtain ⟨k1, h1⟩ : ∃ k, decide ((s.size : Int) < 1) = k := ⟨_, rfl⟩
  obtain ⟨k2, h2⟩ : ∃ k, decide ((64 : Int) < (s.size : Int)) = k := ⟨_, rfl⟩
  obtain ⟨k3, h3⟩ : ∃ k, decide ((n2 : Int) ≤ 1024) = k := ⟨_, rfl⟩
  obtain ⟨k4, h4⟩ : ∃ k, ((n2 : Int) == 0) = k := ⟨_, rfl⟩
  have HB : Hid (((!k1 && !k2) && (x && y && !z) && (k3 && (!g || k4))) = b) := by
    show _ = _
    rw [← hb']
    have e1 : decide (1 ≤ s.size) = !k1 := by rw [← h1, Bool.eq_iff_iff]; simp; omega
    have e2 : decide (s.size ≤ 64) = !k2 := by rw [← h2, Bool.eq_iff_iff]; simp; omega
    have e3 : decide (n2 ≤ if g then 0 else 1024) = (k3 && (!g || k4)) := by
      rw [← h3, ← h4, Bool.eq_iff_iff]
      cases g <;> simp <;> omega
    rw [e1, e2, e3]
  clear hb'
  obtain ⟨N, hN⟩ : ∃ N, N = w.heap.size := ⟨_, rfl⟩
  obtain ⟨M, hM⟩ : ∃ M, M = w.heap.size + 1 := ⟨_, rfl⟩
  obtain ⟨W0, hW0⟩ : ∃ W0, W0 = (w.alloc (.cells #[.string s, iV cl, iV sq, .slice a1 n1 c1, .bool g, .slice a2 n2 c2, .slice a3 n3 c3] 50)).alloc (.cells #[iV cl, iV sq] 99) := ⟨_, rfl⟩
  have HG0 : Hid (w.grownBy W0 none ∧ Blk W0 N 50 [.string s, iV cl, iV sq, .slice a1 n1 c1, .bool g, .slice a2 n2 c2, .slice a3 n3 c3] ∧ Blk W0 M 99 [iV cl, iV sq]) := by
    refine ⟨?_, ?_, ?_⟩
    · rw [hW0]; exact gb_alloc (gb_alloc (gb_refl _ _) _) _
    · rw [hW0, hN]; exact (Blk.new _ _ _).alloc _
    · rw [hW0, hM, ← World.size_alloc]; exact Blk.new _ _ _
  go_enter Tryz.func61, Tryz.ntmps61
  cases k1 with
  | true => go_wp2; go_ret; exact ⟨by rw [← HB.out]; simp, by rw [← hW0]; exact HG0.out.1⟩
  | false =>
    cases k2 with
    | true => go_wp2; go_ret; exact ⟨by rw [← HB.out]; simp, by rw [← hW0]; exact HG0.out.1⟩
    | false =>
      go_wp2_with fail
      rw [← hW0, ← hM, ← hN]
      clear hW0 hM hN
      refine (HO.out W0).mono ?_
      rintro e w1 ⟨rfl, hg⟩
      have HG1 : Hid (w.grownBy w1 none ∧ Blk w1 N 50 [.string s, iV cl, iV sq, .slice a1 n1 c1, .bool g, .slice a2 n2 c2, .slice a3 n3 c3] ∧ Blk w1 M 99 [iV cl, iV sq]) := ⟨gb_trans HG0.out.1 hg, HG0.out.2.1.grown hg (by simp), HG0.out.2.2.grown hg (by simp)⟩
      clear hg HG0
      have x3 := HG1.out.2.1.cell (i := 3) rfl
      cases x with
      | false => go_wp2; go_ret; exact ⟨by rw [← HB.out]; simp, HG1.out.1⟩
      | true =>
        go_wp2_with fail
        refine (HR.out w1 HG1.out.1).mono ?_
        rintro e w2 ⟨rfl, hg⟩
        have HG2 : Hid (w.grownBy w2 none ∧ Blk w2 N 50 [.string s, iV cl, iV sq, .slice a1 n1 c1, .bool g, .slice a2 n2 c2, .slice a3 n3 c3] ∧ Blk w2 M 99 [iV cl, iV sq]) := ⟨gb_trans HG1.out.1 hg, HG1.out.2.1.grown hg (by simp), HG1.out.2.2.grown hg (by simp)⟩
        clear hg HG1 x3
        have x3 := HG2.out.2.1.cell (i := 3) rfl
        have d0 := HG2.out.2.2.cell (i := 0) rfl
        have d1 := HG2.out.2.2.cell (i := 1) rfl
        cases y with
        | false => go_wp2; go_ret; exact ⟨by rw [← HB.out]; simp, HG2.out.1⟩
        | true =>
          go_wp2_with fail
          refine (HH.out w2 HG2.out.1).mono ?_
          rintro e w3 ⟨rfl, hg⟩
          have HG3 : Hid (w.grownBy w3 none ∧ Blk w3 N 50 [.string s, iV cl, iV sq, .slice a1 n1 c1, .bool g, .slice a2 n2 c2, .slice a3 n3 c3]) := ⟨gb_trans HG2.out.1 hg, HG2.out.2.1.grown hg (by simp)⟩
          clear hg HG2 x3 d0 d1
          have x4 := HG3.out.2.cell (i := 4) rfl
          have x5 := HG3.out.2.cell (i := 5) rfl
          cases z with
          | true => go_wp2; go_ret; exact ⟨by rw [← HB.out]; simp, HG3.out.1⟩
          | false =>
            cases k3 with
            | false => go_wp2; go_ret; exact ⟨by rw [← HB.out]; simp, HG3.out.1⟩
            | true =>
              cases g with
              | false => go_wp2; go_ret; exact ⟨by rw [← HB.out]; simp, HG3.out.1⟩
              | true => go_wp2; go_ret; exact ⟨by rw [← HB.out]; simp, HG3.out.1⟩
set_option maxHeartbeats 1000000 in
theorem refRightR_any (r : R) (B : Nat) (w : World) (q : L) (h : RAt w B q r) : Calls Tryz.prog 37 #[q.v r] w fun e w' => e = .returned (.bool (rightB r)) ∧ w.grownBy w' none := by
  have HS := Lib.hid (fun w' (hg : w.grownBy w' none) => refShape_any (shapeB r) r B w' q (h.stay hg) rfl)
  have hl := h.l3
  clear h
  obtain ⟨b, hb⟩ : ∃ b, b = rightB r := ⟨_, rfl⟩
  rw [← hb]
  unfold rightB at hb
  rw [hl] at hb
  clear hl
  generalize shapeB r = x at HS hb
  obtain ⟨s, a1, n1, c1, a2, n2, c2, a3, n3, c3⟩ := q
  obtain ⟨key, cl, sq, cx, g, val, sig⟩ := r
  replace HS : Hid (∀ w' (_ : w.grownBy w' none), Calls Tryz.prog 61 #[vV s cl sq a1 n1 c1 g a2 n2 c2 a3 n3 c3] w' fun e w'' => e = .returned (.bool x) ∧ w'.grownBy w'' none) := HS
  show Calls _ _ #[vV s cl sq a1 n1 c1 g a2 n2 c2 a3 n3 c3] w _
  obtain ⟨N, hN⟩ : ∃ N, N = w.heap.size := ⟨_, rfl⟩
  obtain ⟨W0, hW0⟩ : ∃ W0, W0 = w.alloc (.cells #[.string s, iV cl, iV sq, .slice a1 n1 c1, .bool g, .slice a2 n2 c2, .slice a3 n3 c3] 50) := ⟨_, rfl⟩
  have hG0 : w.grownBy W0 none := by rw [hW0]; exact gb_alloc (gb_refl _ _) _
  have hB0 : Blk W0 N 50 [.string s, iV cl, iV sq, .slice a1 n1 c1, .bool g, .slice a2 n2 c2, .slice a3 n3 c3] := by rw [hW0, hN]; exact Blk.new _ _ _
  have HG0 := Lib.hid (And.intro hG0 hB0); clear hG0 hB0
  have HB := Lib.hid hb; clear hb
  go_enter Tryz.func37, Tryz.ntmps37
  go_wp2_with fail
  rw [← hW0, ← hN]
  clear hW0 hN
  refine (HS.out _ HG0.out.1).mono ?_
  rintro e w1 ⟨rfl, hg⟩
  have m6 := (HG0.out.2.grown hg (by simp)).cell (i := 6) rfl
  have HG := Lib.hid (gb_trans HG0.out.1 hg); clear hg
  cases x with
  | false =>
    go_wp2
    go_ret
    exact ⟨by rw [HB.out]; rfl, HG.out⟩
  | true =>
    by_cases h3 : n3 = 64
    · subst h3
      go_wp2
      go_ret
      exact ⟨by rw [HB.out]; rfl, HG.out⟩
    · have i3 : ((n3 : Int) == 64) = false := by rw [beq_eq_false_iff_ne]; omega
      have HF : Hid (b = false) := by show _ = _; rw [HB.out]; simp [h3]
      clear h3
      go_wp2
      go_ret
      exact ⟨by rw [HF.out]; rfl, HG.out⟩
end Rc
end Go.Proofs.YtohcoihdijemfaaGreat
