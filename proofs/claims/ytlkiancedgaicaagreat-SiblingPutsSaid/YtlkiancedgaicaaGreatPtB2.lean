/- texts merged, part 2: XSbM XSbMem XSbConcat XFlowE XSbMust XWiRows XFlowT XRcParts XRcDots XRcWork XFlowOw XRcText XRcCalls XSbAlike XVeInsert XVeTake XVeJoin XSbUnder -/
import Derived.Test.YtlkiancedgaicaaGreatPtB1
import Derived.Lib.AppendZeros
import Derived.Outline
import Derived.Shelf.SlSortCmp.QuietGrown
import Derived.Deep.RegionWith
import Derived.Shelf.Spec.SlicesInsertGrow
import Derived.WalkKit
import Derived.Lib.Hide
import Derived.WalkSpells
import Derived.WalkLawsBesides
import Derived.Deep.RegionHeld3
import Derived.Deep.RegionLawGrows
/- Sets of records: mathematics. What is joined: of each dot the least, those that none is over. -/
namespace Go.Proofs.YtlkiancedgaicaaGreat
open Wi Ve Rc
namespace Sb
/-- a text ahead of another one -/
def ltL : List Nat → List Nat → Bool
  | [], [] => false
  | [], _ :: _ => true
  | _ :: _, [] => false
  | a :: l, b :: m => decide (a < b) || (decide (a = b) && ltL l m)
theorem ltL_irrefl (a : List Nat) : ltL a a = false := by
  induction a with
  | nil => rfl
  | cons x l ih => simp [ltL, ih]
theorem ltL_trans {a b c : List Nat} (h1 : ltL a b = true) (h2 : ltL b c = true) : ltL a c = true := by
  induction a generalizing b c with
  | nil =>
    cases b with
    | nil => simp [ltL] at h1
    | cons y m =>
      cases c with
      | nil => simp [ltL] at h2
      | cons z n => rfl
  | cons x l ih =>
    cases b with
    | nil => simp [ltL] at h1
    | cons y m =>
      cases c with
      | nil => simp [ltL] at h2
      | cons z n =>
        simp only [ltL, Bool.or_eq_true, Bool.and_eq_true, decide_eq_true_eq] at *
        rcases h1 with h1 | ⟨rfl, h1⟩
        · rcases h2 with h2 | ⟨rfl, h2⟩
          · exact Or.inl (by omega)
          · exact Or.inl h1
        · rcases h2 with h2 | ⟨rfl, h2⟩
          · exact Or.inl h2
          · exact Or.inr ⟨rfl, ih h1 h2⟩
theorem ltL_tri {a b : List Nat} (h1 : ltL a b = false) (h2 : ltL b a = false) : a = b := by
  induction a generalizing b with
  | nil =>
    cases b with
    | nil => rfl
    | cons y m => simp [ltL] at h1
  | cons x l ih =>
    cases b with
    | nil => simp [ltL] at h2
    | cons y m =>
      simp only [ltL, Bool.or_eq_false_iff, Bool.and_eq_false_iff, decide_eq_false_iff_not] at h1 h2
      have hxy : x = y := by omega
      subst hxy
      have e1 : ltL l m = false := by rcases h1.2 with h | h; exact absurd rfl h; exact h
      have e2 : ltL m l = false := by rcases h2.2 with h | h; exact absurd rfl h; exact h
      rw [ih e1 e2]
theorem ltL_le {a b c : List Nat} (h1 : ltL b a = false) (h2 : ltL c b = false) : ltL c a = false := by
  cases h : ltL c a with
  | false => rfl
  | true =>
    cases h3 : ltL a b with
    | true => rw [ltL_trans h h3] at h2; cases h2
    | false =>
      have := ltL_tri h3 h1
      subst this
      rw [h] at h2; cases h2

def lessD (a b : R) : Bool := decide (a.cl < b.cl) || (decide (a.cl = b.cl) && decide (a.sq < b.sq))
theorem lessD_iff (a b : R) : lessD a b = true ↔ a.cl < b.cl ∨ a.cl = b.cl ∧ a.sq < b.sq := by simp [lessD]
theorem lessD_no (a b : R) : lessD a b = false ↔ ¬ (a.cl < b.cl ∨ a.cl = b.cl ∧ a.sq < b.sq) := by rw [← lessD_iff]; simp
theorem dot_iff (a b : R) : a.dot = b.dot ↔ a.cl = b.cl ∧ a.sq = b.sq := by simp [R.dot]
/-- how their dots stand to each other -/
def cmpI (x y : Int) : Int := if x < y then -1 else if y < x then 1 else 0
def cmpD (a b : R) : Int := if cmpI a.cl b.cl = 0 then cmpI a.sq b.sq else cmpI a.cl b.cl
theorem cmpI_lt (x y : Int) : cmpI x y < 0 ↔ x < y := by unfold cmpI; split <;> (try split) <;> omega
theorem cmpI_eq (x y : Int) : cmpI x y = 0 ↔ x = y := by unfold cmpI; split <;> (try split) <;> omega
theorem cmpD_lt (a b : R) : decide (cmpD a b < 0) = lessD a b := by
  rw [Bool.eq_iff_iff, decide_eq_true_eq, lessD_iff]
  unfold cmpD
  split
  · rename_i h
    rw [cmpI_eq] at h
    rw [cmpI_lt]; omega
  · rename_i h
    rw [cmpI_eq] at h
    rw [cmpI_lt]; omega
theorem cmpD_eq (a b : R) : cmpD a b = 0 ↔ a.dot = b.dot := by
  rw [dot_iff]
  unfold cmpD
  split
  · rename_i h
    rw [cmpI_eq] at h
    rw [cmpI_eq]; omega
  · rename_i h
    rw [cmpI_eq] at h ⊢
    omega

def keyL : List R → List Nat
  | [] => []
  | r :: _ => r.key
def alikeB (l : List R) : Bool := l.all fun r => rightB r && decide (r.key = keyL l)
theorem alike_iff (l : List R) : alikeB l = true ↔ ∀ r ∈ l, rightB r = true ∧ r.key = keyL l := by
  simp [alikeB]
theorem alike_key {l : List R} (h : alikeB l = true) {a b : R} (ha : a ∈ l) (hb : b ∈ l) : a.key = b.key :=
  ((alike_iff l).1 h a ha).2.trans ((alike_iff l).1 h b hb).2.symm
theorem alike_of {l : List R} (hr : ∀ r ∈ l, rightB r = true) (hk : ∀ a ∈ l, ∀ b ∈ l, a.key = b.key) : alikeB l = true := by
  rw [alike_iff]
  intro r h
  refine ⟨hr r h, ?_⟩
  cases l with
  | nil => cases h
  | cons x m => exact hk r h x (List.mem_cons_self ..)
theorem alike_sub {l m : List R} (h : alikeB l = true) (hs : ∀ x ∈ m, x ∈ l) : alikeB m = true :=
  alike_of (fun r hr => ((alike_iff l).1 h r (hs r hr)).1) (fun _ ha _ hb => alike_key h (hs _ ha) (hs _ hb))
def risesB : List R → Bool
  | a :: b :: l => lessD a b && risesB (b :: l)
  | _ => true
/-- has one of them the dot in its context? -/
def underB (l : List R) (r : R) : Bool := l.any fun a => hasD a.cx r.dot
def setB (l : List R) : Bool := alikeB l && risesB l && !(l.any (underB l))
theorem lessD_trans {a b c : R} (h1 : lessD a b = true) (h2 : lessD b c = true) : lessD a c = true := by
  rw [lessD_iff] at *; omega
theorem lessD_irrefl (a : R) : lessD a a = false := by rw [lessD_no]; omega
theorem rises_iff (l : List R) : risesB l = true ↔ l.Pairwise (fun a b => lessD a b = true) := by
  induction l with
  | nil => simp [risesB]
  | cons a l ih =>
    cases l with
    | nil => simp [risesB]
    | cons b m =>
      rw [risesB, Bool.and_eq_true, ih, List.pairwise_cons (a := a) (l := b :: m)]
      constructor
      · rintro ⟨h1, h2⟩
        refine ⟨fun x hx => ?_, h2⟩
        rcases List.mem_cons.1 hx with rfl | hx
        · exact h1
        · exact lessD_trans h1 ((List.pairwise_cons.1 h2).1 x hx)
      · rintro ⟨h1, h2⟩
        exact ⟨h1 b (List.mem_cons_self ..), h2⟩
theorem right_shape {r : R} (h : rightB r = true) : shapeB r = true := by
  simp only [rightB, Bool.and_eq_true] at h; exact h.1
theorem put_inj {a b : R} (ha : rightB a = true) (hb : rightB b = true) (h : putL a = putL b) : a = b := by
  rw [← (get_put ha).2, h, (get_put hb).2]
/-- of right records of one key, over is to have the dot -/
theorem over_has {a b : R} (ha : rightB a = true) (hb : rightB b = true) (hk : a.key = b.key) : overB a b = hasD a.cx b.dot := by
  unfold overB; rw [right_shape ha, right_shape hb, hk]; simp
theorem under_iff {l : List R} (h : alikeB l = true) {r : R} (hr : r ∈ l) : underB l r = true ↔ ∃ a ∈ l, overB a r = true := by
  unfold underB
  rw [List.any_eq_true]
  constructor
  · rintro ⟨a, ha, ho⟩
    exact ⟨a, ha, by rw [over_has ((alike_iff l).1 h a ha).1 ((alike_iff l).1 h r hr).1 (alike_key h ha hr)]; exact ho⟩
  · rintro ⟨a, ha, ho⟩
    exact ⟨a, ha, by rw [over_has ((alike_iff l).1 h a ha).1 ((alike_iff l).1 h r hr).1 (alike_key h ha hr)] at ho; exact ho⟩

/-- a record is taken on, whose dot is the last one's or behind it -/
def takeG {α : Type} (f : α → R) (u : List α) (x : α) : List α :=
  match u.getLast? with
  | none => u ++ [x]
  | some y => if cmpD (f y) (f x) ≠ 0 then u ++ [x] else if ltL (putL (f x)) (putL (f y)) then u.dropLast ++ [x] else u
def uniG {α : Type} (f : α → R) (p : List α) : List α := p.foldl (takeG f) []
theorem takeG_map {α : Type} (f : α → R) (u : List α) (x : α) : (takeG f u x).map f = takeG id (u.map f) (f x) := by
  unfold takeG
  rw [List.getLast?_map]
  cases h : u.getLast? with
  | none => simp
  | some y =>
    simp only [Option.map_some, id]
    split
    · simp
    · split
      · rw [List.map_append, List.map_dropLast]; rfl
      · rfl
theorem uniG_map {α : Type} (f : α → R) (p : List α) : (uniG f p).map f = uniG id (p.map f) := by
  unfold uniG
  rw [List.foldl_map]
  suffices h : ∀ (p : List α) (u : List α) (v : List R), u.map f = v → (p.foldl (takeG f) u).map f = p.foldl (fun v x => takeG id v (f x)) v from h p [] [] rfl
  intro p
  induction p with
  | nil => intro u v h; exact h
  | cons x p ih => intro u v h; exact ih _ _ (by rw [takeG_map, h])
theorem uniG_take {α : Type} (f : α → R) (p : List α) (k : Nat) (x : α) (h : p[k]? = some x) : uniG f (p.take (k + 1)) = takeG f (uniG f (p.take k)) x := by
  unfold uniG
  rw [List.take_add_one, h]
  simp
/-- of each dot that one whose bytes are the least, rising -/
structure Uni (l u : List R) : Prop where
  rise : u.Pairwise (fun a b => lessD a b = true)
  sub : ∀ x ∈ u, x ∈ l
  least : ∀ x ∈ l, ∃ y ∈ u, y.dot = x.dot ∧ ltL (putL x) (putL y) = false
theorem less_dot {a b c : R} (h : lessD a b = true) (e : b.dot = c.dot) : lessD a c = true := by
  rw [lessD_iff] at *; rw [dot_iff] at e; omega
theorem uni_take {p u : List R} {r : R} (h : Uni p u) (hr : ∀ x ∈ p, lessD r x = false) : Uni (p ++ [r]) (takeG id u r) := by
  unfold takeG
  rcases List.eq_nil_or_concat u with rfl | ⟨v, x, rfl⟩
  · simp only [List.getLast?_nil]
    refine ⟨by simp, fun x hx => List.mem_append_right _ (by simpa using hx), fun x hx => ?_⟩
    rcases List.mem_append.1 hx with hx | hx
    · obtain ⟨y, hy, _⟩ := h.least x hx; cases hy
    · rw [List.mem_singleton] at hx; subst hx; exact ⟨x, by simp, rfl, ltL_irrefl _⟩
  · rw [List.concat_eq_append] at *
    simp only [List.getLast?_append, List.getLast?_singleton, Option.some_or, id]
    have hx : x ∈ p := h.sub x (by simp)
    have hpw := List.pairwise_append.1 h.rise
    have hlast : ∀ y ∈ v ++ [x], y = x ∨ lessD y x = true := fun y hy => by
      rcases List.mem_append.1 hy with hy | hy
      · exact Or.inr (hpw.2.2 y hy x (by simp))
      · exact Or.inl (by simpa using hy)
    split
    · rename_i hne
      have hne' : ¬ x.dot = r.dot := fun e => hne ((cmpD_eq _ _).2 e)
      have hlt : lessD x r = true := by
        have := hr x hx
        rw [lessD_no] at this
        rw [dot_iff] at hne'
        rw [lessD_iff]; omega
      refine ⟨?_, ?_, ?_⟩
      · refine List.pairwise_append.2 ⟨h.rise, by simp, fun a ha b hb => ?_⟩
        rw [List.mem_singleton] at hb; subst hb
        rcases hlast a ha with rfl | h1
        · exact hlt
        · exact lessD_trans h1 hlt
      · intro y hy
        rcases List.mem_append.1 hy with hy | hy
        · exact List.mem_append_left _ (h.sub y hy)
        · exact List.mem_append_right _ hy
      · intro y hy
        rcases List.mem_append.1 hy with hy | hy
        · obtain ⟨z, hz, e⟩ := h.least y hy
          exact ⟨z, List.mem_append_left _ hz, e⟩
        · rw [List.mem_singleton] at hy; subst hy
          exact ⟨y, by simp, rfl, ltL_irrefl _⟩
    · rename_i heq
      have hd : x.dot = r.dot := (cmpD_eq _ _).1 (Classical.not_not.1 heq)
      split
      · rename_i hlt
        rw [List.dropLast_concat]
        refine ⟨?_, ?_, ?_⟩
        · refine List.pairwise_append.2 ⟨hpw.1, by simp, fun a ha b hb => ?_⟩
          rw [List.mem_singleton] at hb; subst hb
          exact less_dot (hpw.2.2 a ha x (by simp)) hd
        · intro y hy
          rcases List.mem_append.1 hy with hy | hy
          · exact List.mem_append_left _ (h.sub y (List.mem_append_left _ hy))
          · exact List.mem_append_right _ hy
        · intro y hy
          rcases List.mem_append.1 hy with hy | hy
          · obtain ⟨z, hz, e1, e2⟩ := h.least y hy
            rcases List.mem_append.1 hz with hz | hz
            · exact ⟨z, List.mem_append_left _ hz, e1, e2⟩
            · rw [List.mem_singleton] at hz; subst hz
              refine ⟨r, by simp, hd.symm.trans e1, ?_⟩
              cases hc : ltL (putL y) (putL r) with
              | false => rfl
              | true => rw [ltL_trans hc hlt] at e2; cases e2
          · rw [List.mem_singleton] at hy; subst hy
            exact ⟨y, by simp, rfl, ltL_irrefl _⟩
      · rename_i hnl
        refine ⟨h.rise, fun y hy => List.mem_append_left _ (h.sub y hy), fun y hy => ?_⟩
        rcases List.mem_append.1 hy with hy | hy
        · exact h.least y hy
        · rw [List.mem_singleton] at hy; subst hy
          exact ⟨x, by simp, hd, by simpa using hnl⟩
theorem uni_of {p : List R} (h : p.Pairwise (fun a b => lessD b a = false)) : Uni p (uniG id p) := by
  suffices ∀ (p2 p1 u : List R), Uni p1 u → (p1 ++ p2).Pairwise (fun a b => lessD b a = false) → Uni (p1 ++ p2) (p2.foldl (takeG id) u) from
    this p [] [] ⟨by simp, fun x hx => (by cases hx), fun x hx => (by cases hx)⟩ h
  intro p2
  induction p2 with
  | nil => intro p1 u hu _; simpa using hu
  | cons r p2 ih =>
    intro p1 u hu hp
    have e : p1 ++ r :: p2 = (p1 ++ [r]) ++ p2 := by simp
    rw [e] at hp ⊢
    exact ih _ _ (uni_take hu (fun x hx => (List.pairwise_append.1 (List.pairwise_append.1 hp).1).2.2 x hx r (by simp))) hp
theorem Uni.congr {l m u : List R} (h : Uni l u) (hm : ∀ x, x ∈ l ↔ x ∈ m) : Uni m u :=
  ⟨h.rise, fun x hx => (hm x).1 (h.sub x hx), fun x hx => h.least x ((hm x).2 hx)⟩
theorem rise_dot {u : List R} (h : u.Pairwise (fun a b => lessD a b = true)) {x y : R} (hx : x ∈ u) (hy : y ∈ u) (e : x.dot = y.dot) : x = y := by
  induction u with
  | nil => cases hx
  | cons a u ih =>
    rw [List.pairwise_cons] at h
    rcases List.mem_cons.1 hx with e1 | h1 <;> rcases List.mem_cons.1 hy with e2 | h2
    · rw [e1, e2]
    · have := h.1 y h2; rw [lessD_iff] at this; rw [dot_iff] at e; subst e1; omega
    · have := h.1 x h1; rw [lessD_iff] at this; rw [dot_iff] at e; subst e2; omega
    · exact ih h.2 h1 h2
/-- what rises is told by its members -/
theorem rise_ext {u v : List R} (hu : u.Pairwise (fun a b => lessD a b = true)) (hv : v.Pairwise (fun a b => lessD a b = true)) (h : ∀ x, x ∈ u ↔ x ∈ v) : u = v := by
  induction u generalizing v with
  | nil =>
    cases v with
    | nil => rfl
    | cons b v => have := (h b).2 (by simp); cases this
  | cons a u ih =>
    cases v with
    | nil => have := (h a).1 (by simp); cases this
    | cons b v =>
      rw [List.pairwise_cons] at hu hv
      have hab : a = b := by
        rcases List.mem_cons.1 ((h a).1 (by simp)) with e | ha
        · exact e
        · rcases List.mem_cons.1 ((h b).2 (by simp)) with e | hb
          · exact e.symm
          · have h1 := hv.1 a ha
            have h2 := hu.1 b hb
            rw [lessD_iff] at h1 h2; omega
      subst hab
      rw [ih hu.2 hv.2 fun x => ?_]
      constructor
      · intro hx
        rcases List.mem_cons.1 ((h x).1 (List.mem_cons_of_mem _ hx)) with e | h1
        · subst e; have := hu.1 x hx; rw [lessD_irrefl] at this; cases this
        · exact h1
      · intro hx
        rcases List.mem_cons.1 ((h x).2 (List.mem_cons_of_mem _ hx)) with e | h1
        · subst e; have := hv.1 x hx; rw [lessD_irrefl] at this; cases this
        · exact h1
theorem uni_mem {l u v : List R} (hr : ∀ x ∈ l, rightB x = true) (hu : Uni l u) (hv : Uni l v) {x : R} (hx : x ∈ u) : x ∈ v := by
  obtain ⟨y, hy, e1, e2⟩ := hv.least x (hu.sub x hx)
  obtain ⟨z, hz, f1, f2⟩ := hu.least y (hv.sub y hy)
  have hzx := rise_dot hu.rise hz hx (f1.trans e1)
  subst hzx
  have := put_inj (hr _ (hu.sub _ hx)) (hr _ (hv.sub _ hy)) (ltL_tri e2 f2)
  rw [this]; exact hy
theorem uni_one {l u v : List R} (hr : ∀ x ∈ l, rightB x = true) (hu : Uni l u) (hv : Uni l v) : u = v :=
  rise_ext hu.rise hv.rise fun _ => ⟨uni_mem hr hu hv, uni_mem hr hv hu⟩
/-- those that none is over -/
def topF (u : List R) : List R := u.filter fun r => !underB u r
/-- what records are, joined -/
def joinL (l : List R) : List R := topF (uniG id (l.mergeSort fun a b => !lessD b a))
theorem sorted_of (l : List R) : (l.mergeSort fun a b => !lessD b a).Pairwise (fun a b => lessD b a = false) := by
  have h := List.pairwise_mergeSort (le := fun a b : R => !lessD b a) (fun a b c h1 h2 => by
    simp only [Bool.not_eq_true'] at *
    rw [lessD_no] at *; omega) (fun a b => by
    simp only [Bool.or_eq_true, Bool.not_eq_true']
    rw [lessD_no, lessD_no]; omega) l
  exact h.imp fun h => by simpa using h
theorem uni_join (l : List R) : ∃ u, Uni l u ∧ joinL l = topF u :=
  ⟨_, (uni_of (sorted_of l)).congr fun _ => List.mem_mergeSort, rfl⟩
theorem join_is {l p : List R} (hr : ∀ x ∈ l, rightB x = true) (hp : ∀ x, x ∈ p ↔ x ∈ l) (hs : p.Pairwise (fun a b => lessD b a = false)) : joinL l = topF (uniG id p) := by
  obtain ⟨u, hu, e⟩ := uni_join l
  rw [e, uni_one hr hu ((uni_of hs).congr hp)]
theorem join_congr {l m : List R} (hr : ∀ x ∈ l, rightB x = true) (h : ∀ x, x ∈ l ↔ x ∈ m) : joinL l = joinL m := by
  obtain ⟨u, hu, e⟩ := uni_join l
  obtain ⟨v, hv, f⟩ := uni_join m
  rw [e, f, uni_one hr hu (hv.congr fun y => (h y).symm)]
theorem top_rise {u : List R} (h : u.Pairwise (fun a b => lessD a b = true)) : (topF u).Pairwise (fun a b => lessD a b = true) := h.sublist List.filter_sublist
theorem top_mem {u : List R} {x : R} : x ∈ topF u ↔ x ∈ u ∧ underB u x = false := by simp [topF]
theorem join_rise (l : List R) : (joinL l).Pairwise (fun a b => lessD a b = true) := by
  obtain ⟨u, hu, e⟩ := uni_join l
  rw [e]; exact top_rise hu.rise
theorem join_sub {l : List R} {x : R} (h : x ∈ joinL l) : x ∈ l := by
  obtain ⟨u, hu, e⟩ := uni_join l
  rw [e] at h
  exact hu.sub x (top_mem.1 h).1
theorem join_free {l : List R} {x a : R} (hx : x ∈ joinL l) (ha : a ∈ joinL l) : hasD a.cx x.dot = false := by
  obtain ⟨u, hu, e⟩ := uni_join l
  rw [e] at hx ha
  have := (top_mem.1 hx).2
  unfold underB at this
  rw [List.any_eq_false] at this
  simpa using this a (top_mem.1 ha).1
theorem join_set {l : List R} (h : alikeB l = true) : setB (joinL l) = true := by
  have h1 := alike_sub h (fun x hx => join_sub (l := l) hx)
  have h2 := (rises_iff _).2 (join_rise l)
  unfold setB
  rw [h1, h2]
  simp only [Bool.and_true, Bool.not_eq_true', Bool.true_and]
  rw [List.any_eq_false]
  intro x hx
  unfold underB
  rw [List.any_eq_true]
  rintro ⟨a, ha, ho⟩
  rw [join_free hx ha] at ho; cases ho
theorem set_of {l : List R} (h : setB l = true) : alikeB l = true ∧ l.Pairwise (fun a b => lessD a b = true) ∧ ∀ x ∈ l, underB l x = false := by
  simp only [setB, Bool.and_eq_true, Bool.not_eq_true', List.any_eq_false, rises_iff] at h
  exact ⟨h.1.1, h.1.2, fun x hx => by simpa using h.2 x hx⟩
/-- a right set, with itself, is itself -/
theorem join_self {l m : List R} (h : setB l = true) (hm : ∀ x, x ∈ m ↔ x ∈ l) : joinL m = l := by
  obtain ⟨h1, h2, h3⟩ := set_of h
  have hr : ∀ x ∈ m, rightB x = true := fun x hx => ((alike_iff l).1 h1 x ((hm x).1 hx)).1
  obtain ⟨u, hu, e⟩ := uni_join m
  have hl : Uni m l := ⟨h2, fun x hx => (hm x).2 hx, fun x hx => ⟨x, (hm x).1 hx, rfl, ltL_irrefl _⟩⟩
  rw [e, uni_one hr hu hl]
  unfold topF
  rw [List.filter_eq_self]
  intro x hx
  rw [h3 x hx]; rfl
/-- the joined contexts have what one of them has -/
theorem mx_has {R : List (List D)} {c s : Int} (hs : 1 ≤ s) : s ≤ mx R c ↔ ∃ l ∈ R, s ≤ um l c := by
  induction R with
  | nil => simp [mx]; omega
  | cons l R ih =>
    rw [mx]
    constructor
    · intro h
      by_cases h1 : s ≤ um l c
      · exact ⟨l, by simp, h1⟩
      · obtain ⟨m, hm, h2⟩ := ih.1 (by omega)
        exact ⟨m, List.mem_cons_of_mem _ hm, h2⟩
    · rintro ⟨m, hm, h2⟩
      rcases List.mem_cons.1 hm with rfl | hm
      · omega
      · have := ih.2 ⟨m, hm, h2⟩; omega
theorem seen_is {l : List R} (h : ∀ a ∈ l, Rt 0 a.cx) (r : R) : hasD (joinF (l.map R.cx)) r.dot = underB l r := by
  have hall : allB (l.map R.cx) = true := allB_of (by intro v hv; obtain ⟨a, ha, rfl⟩ := List.mem_map.1 hv; exact h a ha)
  have hj := joinF_right (l.map R.cx)
  unfold hasD underB
  rw [(rtB_iff _ _).2 hj, joinF_up hall]
  cases ho : okD r.dot with
  | false =>
    simp only [Bool.and_false, Bool.false_and]
    symm
    rw [List.any_eq_false]
    intro a _
    unfold hasD
    rw [ho]; simp
  | true =>
    have h1 : 1 ≤ r.dot.2 := by simp only [okD, Bool.and_eq_true, decide_eq_true_eq] at ho; omega
    rw [Bool.eq_iff_iff]
    simp only [Bool.true_and, decide_eq_true_eq, List.any_eq_true]
    rw [mx_has h1]
    constructor
    · rintro ⟨v, hv, h2⟩
      obtain ⟨a, ha, rfl⟩ := List.mem_map.1 hv
      refine ⟨a, ha, ?_⟩
      unfold hasD
      rw [(rtB_iff _ _).2 (h a ha), ho]
      rw [um_up (h a ha)] at h2
      simpa using h2
    · rintro ⟨a, ha, h2⟩
      refine ⟨a.cx, List.mem_map.2 ⟨a, ha, rfl⟩, ?_⟩
      unfold hasD at h2
      simp only [Bool.and_eq_true, decide_eq_true_eq] at h2
      rw [um_up (h a ha)]
      exact h2.2
end Sb
end Go.Proofs.YtlkiancedgaicaaGreat

/- Rows of records in memory: rows that lie below a bound; rows of one's own. -/
namespace Go.Proofs.YtlkiancedgaicaaGreat
open Go.RowKit Ow Wi Ve Rc
namespace Sb
/-- a record, and where its parts lie -/
abbrev E := L × R
abbrev e0 : E := (⟨⟨#[]⟩, none, 0, 0, none, 0, 0, none, 0, 0⟩, ⟨[], 0, 0, [], false, [], []⟩)
instance : Inhabited E := ⟨e0⟩
def recC (x : E) : List Value := x.1.cells x.2
def recV (x : E) : Value := x.1.v x.2
theorem recC_len (x : E) : (recC x).length = 7 := rfl
def recsC (l : List E) : List Value := l.flatMap recC
theorem recsC_len (l : List E) : (recsC l).length = l.length * 7 := by
  induction l with
  | nil => rfl
  | cons d r ih => rw [recsC, List.flatMap_cons, List.length_append, ← recsC, ih, recC_len, List.length_cons]; omega
theorem recsC_app (l m : List E) : recsC (l ++ m) = recsC l ++ recsC m := by simp [recsC]
theorem recsC_one (x : E) : recsC [x] = recC x := by simp [recsC]
theorem recsC_take (l : List E) (k : Nat) : (recsC l).take (k * 7) = recsC (l.take k) := by
  induction l generalizing k with
  | nil => simp [recsC]
  | cons d r ih =>
    cases k with
    | zero => simp [recsC]
    | succ k =>
      show (recC d ++ recsC r).take ((k + 1) * 7) = recC d ++ recsC (r.take k)
      rw [← ih, List.take_append, recC_len, List.take_of_length_le (by rw [recC_len]; omega), show (k + 1) * 7 - 7 = k * 7 by omega]
theorem recsC_drop (l : List E) (k : Nat) : (recsC l).drop (k * 7) = recsC (l.drop k) := by
  induction l generalizing k with
  | nil => simp [recsC]
  | cons d r ih =>
    cases k with
    | zero => simp [recsC]
    | succ k =>
      show (recC d ++ recsC r).drop ((k + 1) * 7) = recsC (r.drop k)
      rw [← ih, List.drop_append, recC_len, List.drop_eq_nil_iff.2 (by rw [recC_len]; omega), show (k + 1) * 7 - 7 = k * 7 by omega]; rfl
theorem drop_e (l : List E) (k : Nat) (h : k < l.length) : l.drop k = l.getD k e0 :: l.drop (k + 1) := by
  rw [List.drop_eq_getElem_cons h, List.getD_eq_getElem?_getD, List.getElem?_eq_getElem h]; rfl
theorem recsC_at (l : List E) (i : Nat) (h : i < l.length) (j : Nat) (hj : j < 7) : (recsC l)[i * 7 + j]? = (recC (l.getD i e0))[j]? := by
  have hd : (recsC l).drop (i * 7) = recC (l.getD i e0) ++ recsC (l.drop (i + 1)) := by
    rw [recsC_drop, drop_e l i h]; simp [recsC]
  have := congrArg (fun q => q[j]?) hd
  simp only [List.getElem?_drop] at this
  rw [this, List.getElem?_append_left (by rw [recC_len]; exact hj)]
theorem recC_cell (x : E) : ∀ v ∈ recC x, v.oneCell' = true := by
  intro v hv
  simp only [recC, L.cells, cellsV, List.mem_cons, List.not_mem_nil, or_false] at hv
  rcases hv with rfl | rfl | rfl | rfl | rfl | rfl | rfl <;> rfl
theorem recsC_cell (l : List E) : ∀ v ∈ recsC l, v.oneCell' = true := by
  intro v hv
  obtain ⟨d, _, h⟩ := List.mem_flatMap.1 hv
  exact recC_cell d v h
theorem info_rec : ∃ i, Tryz.prog.info? 66 = some i ∧ i.zero = some (.agg z7.toArray) ∧ i.size = 7 ∧ i.bytes = 112 := by
  have h : (Tryz.prog.info? 66).map (fun i => (i.zero, i.size, i.bytes)) = some (some (.agg z7.toArray), 7, 112) := by kernel_rfl
  cases hi : Tryz.prog.info? 66 with
  | none => rw [hi] at h; cases h
  | some i =>
    rw [hi] at h
    simp only [Option.map_some, Option.some.injEq, Prod.mk.injEq] at h
    exact ⟨i, rfl, h.1, h.2.1, h.2.2⟩
/-- a slice of the records l, that lie below block B -/
structure RRow (w : World) (B : Nat) (a : Option Addr) (l : List E) : Prop where
  lim : B ≤ w.heap.size
  recs : ∀ x ∈ l, RAt w B x.1 x.2
  cells : l.length = 0 ∨ ∃ pb po, a = some ⟨pb, po, none⟩ ∧ pb < B ∧ ∀ i, i < l.length → ∀ j v, (recC (l.getD i e0))[j]? = some v → w.cell? ⟨pb, po + i * 7 + j, none⟩ = some v
theorem RAt.kept {w w' : World} {B : Nat} {q : L} {r : R} (h : RAt w B q r) {row : Option Nat} (hg : w.grownBy w' row) (hr : ∀ x, row = some x → B ≤ x) : RAt w' B q r :=
  ⟨h.str, h.l1, h.l2, h.l3, h.dots.kept hg hr, h.val.kept hg hr, h.sig.kept hg hr, h.top⟩
theorem RAt.up {w : World} {B B' : Nat} {q : L} {r : R} (h : RAt w B q r) (hB : B ≤ B') (hl : B' ≤ w.heap.size) : RAt w B' q r :=
  ⟨h.str, h.l1, h.l2, h.l3, h.dots.up' hB hl, h.val.up hB hl, h.sig.up hB hl, h.top⟩
theorem RRow.kept {w w' : World} {B : Nat} {a : Option Addr} {l : List E} (h : RRow w B a l) {row : Option Nat} (hg : w.grownBy w' row) (hr : ∀ x, row = some x → B ≤ x) : RRow w' B a l := by
  refine ⟨Nat.le_trans h.lim hg.size, fun x hx => RAt.kept (h.recs x hx) hg hr, ?_⟩
  rcases h.cells with h0 | ⟨pb, po, ha, hlt, hc⟩
  · exact Or.inl h0
  · exact Or.inr ⟨pb, po, ha, hlt, fun i hi j v hv => by
      rw [gb_cell hg (p := ⟨pb, po + i * 7 + j, none⟩) (Nat.lt_of_lt_of_le hlt h.lim) (fun e => by have := hr _ e.symm; simp at this; omega)]
      exact hc i hi j v hv⟩
theorem RRow.stay {w w' : World} {B : Nat} {a : Option Addr} {l : List E} (h : RRow w B a l) (hg : w.grownBy w' none) : RRow w' B a l := h.kept hg (fun r e => by cases e)
theorem RRow.up {w : World} {B B' : Nat} {a : Option Addr} {l : List E} (h : RRow w B a l) (hB : B ≤ B') (hl : B' ≤ w.heap.size) : RRow w B' a l := by
  refine ⟨hl, fun x hx => RAt.up (h.recs x hx) hB hl, ?_⟩
  rcases h.cells with h0 | ⟨pb, po, ha, hlt, hc⟩
  · exact Or.inl h0
  · exact Or.inr ⟨pb, po, ha, by omega, hc⟩
theorem RRow.full {w : World} {B : Nat} {a : Option Addr} {l : List E} (h : RRow w B a l) : RRow w w.heap.size a l := h.up h.lim (Nat.le_refl _)
theorem rrow_nil (w : World) (B : Nat) (a : Option Addr) (h : B ≤ w.heap.size) : RRow w B a [] := ⟨h, fun x hx => (by cases hx), Or.inl rfl⟩
theorem getD_mem {l : List E} {i : Nat} (h : i < l.length) : l.getD i e0 ∈ l := by
  rw [List.getD_eq_getElem?_getD, List.getElem?_eq_getElem h]; exact List.getElem_mem _
/-- the cells of its k-th record, by their places -/
structure Cells7 (w : World) (pb o : Nat) (x : E) : Prop where
  c0 : w.cell? ⟨pb, o + 0, none⟩ = some (.string x.1.s)
  c1 : w.cell? ⟨pb, o + 1, none⟩ = some (iV x.2.cl)
  c2 : w.cell? ⟨pb, o + 2, none⟩ = some (iV x.2.sq)
  c3 : w.cell? ⟨pb, o + 3, none⟩ = some (.slice x.1.a1 x.1.n1 x.1.c1)
  c4 : w.cell? ⟨pb, o + 4, none⟩ = some (.bool x.2.gone)
  c5 : w.cell? ⟨pb, o + 5, none⟩ = some (.slice x.1.a2 x.1.n2 x.1.c2)
  c6 : w.cell? ⟨pb, o + 6, none⟩ = some (.slice x.1.a3 x.1.n3 x.1.c3)
theorem cells7 {w : World} {pb o : Nat} {x : E} (h : ∀ j v, (recC x)[j]? = some v → w.cell? ⟨pb, o + j, none⟩ = some v) : Cells7 w pb o x :=
  ⟨h 0 _ rfl, h 1 _ rfl, h 2 _ rfl, h 3 _ rfl, h 4 _ rfl, h 5 _ rfl, h 6 _ rfl⟩
theorem RRow.at {w : World} {B : Nat} {a : Option Addr} {l : List E} (h : RRow w B a l) (h0 : 0 < l.length) : ∃ pb po, a = some ⟨pb, po, none⟩ ∧ pb < B ∧ ∀ i, i < l.length → Cells7 w pb (po + i * 7) (l.getD i e0) := by
  obtain ⟨pb, po, e, hl, hc⟩ := h.cells.resolve_left (by omega)
  exact ⟨pb, po, e, hl, fun i hi => cells7 (hc i hi)⟩
theorem Cells7.stay {w w' : World} {pb o : Nat} {x : E} (h : Cells7 w pb o x) (hg : w.grownBy w' none) : Cells7 w' pb o x := by
  have e : ∀ k, w'.cell? ⟨pb, k, none⟩ = w.cell? ⟨pb, k, none⟩ := fun k => gb_cell hg (p := ⟨pb, k, none⟩) (show pb < w.heap.size from block_lt_of_cell h.c0) (by simp)
  exact ⟨by rw [e]; exact h.c0, by rw [e]; exact h.c1, by rw [e]; exact h.c2, by rw [e]; exact h.c3, by rw [e]; exact h.c4, by rw [e]; exact h.c5, by rw [e]; exact h.c6⟩
/-- a row of one's own -/
abbrev OwnR (w : World) (base : Nat) (v : Value) (l : List E) : Prop := w.ownsRow base 66 7 v l.length (recsC l)
theorem own_shapeR {w : World} {base : Nat} {v : Value} {l : List E} (h : OwnR w base v l) : ∃ a c, v = .slice a l.length c := by
  rcases h.2 with ⟨rfl, h0⟩ | ⟨g, c, _, rfl, _⟩
  · exact ⟨none, 0, by rw [h0]⟩
  · exact ⟨_, _, rfl⟩
theorem own_recs {w : World} {base : Nat} {v : Value} {l : List E} (h : OwnR w base v l) (hr : ∀ x ∈ l, RAt w w.heap.size x.1 x.2) : ∃ a c, v = .slice a l.length c ∧ l.length ≤ c ∧ c ≤ maxLen ∧ RRow w w.heap.size a l := by
  rcases h.2 with ⟨rfl, h0⟩ | ⟨g, c, cur, rfl, hb, hg, hnc, hcm, hcs, ht⟩
  · exact ⟨none, 0, by rw [h0], by omega, by decide, Nat.le_refl _, hr, Or.inl h0⟩
  · refine ⟨_, c, rfl, hnc, hcm, Nat.le_refl _, hr, Or.inr ⟨g, 0, rfl, lt_of_block hg, fun i hi j u hu => ?_⟩⟩
    have hj : j < 7 := by have := (List.getElem?_eq_some_iff.1 hu).1; rwa [recC_len] at this
    rw [← recsC_at l i hi j hj] at hu
    have := h.cells (g := g) rfl _ u hu
    rw [Addr.add_lit] at this
    rw [Nat.add_assoc]; exact this
/-- one record that lies somewhere, appended to a row of one's own -/
theorem append_recT (T : TypeId) (hT : Tryz.prog.underlying T = some (.slice 66)) (w : World) (base : Nat) (v : Value) (l0 : List E) (pb po cc : Nat) (x : E) (hown : OwnR w base v l0) (hx : ∀ j u, (recC x)[j]? = some u → w.cell? ⟨pb, po + j, none⟩ = some u) (hn : l0.length + 1 ≤ 1000000000) (hbase : base ≤ w.heap.size) :
    ∃ v' w', (Builtin.append_ #[T, T] T #[v, .slice (some ⟨pb, po, none⟩) 1 cc]).run Tryz.prog w = .ok v' w' ∧ OwnR w' base v' (l0 ++ [x]) ∧ w.grownBy w' v.ownBlock := by
  obtain ⟨i, hi, hz, hs, hb⟩ := info_rec
  obtain ⟨v', w', hr, ho, hg, _⟩ := run_append_own (P := Tryz.prog) w base T T 66 i (.agg z7.toArray) 7 112 hT hi hz hs hb rfl (by decide) v l0.length (recsC l0) hown ⟨pb, po, none⟩ 1 cc (recC x) rfl
      (fun j u hu => by rw [Addr.add_lit]; exact hx j u hu) (recC_cell x) (by unfold maxLen; omega) (by omega) hbase
  exact ⟨v', w', hr, by unfold OwnR; rw [recsC_app, recsC_one, List.length_append]; exact ho, hg⟩
theorem gb_ownR {w0 w w' : World} {base : Nat} {v : Value} {l : List E} (h : w0.grownBy w none) (ho : OwnR w base v l) (hb : w0.heap.size ≤ base) (hg : w.grownBy w' v.ownBlock) : w0.grownBy w' none :=
  ⟨hg.os.trans h.os, hg.tape.trans h.tape, hg.output.trans h.output, Nat.le_trans h.size hg.size, fun k hk _ => (hg.block k (Nat.lt_of_lt_of_le hk h.size) (fun e => by have := (ho.lt k e.symm).1; omega)).trans (h.block k hk (by simp))⟩
/-- the record in a block of its own -/
theorem blk_rec {w : World} {N : Nat} {T : TypeId} {x : E} (h : Blk w N T (recC x)) : ∀ j u, (recC x)[j]? = some u → w.cell? ⟨N, 0 + j, none⟩ = some u := fun j u hu => by
  rw [Nat.zero_add]; exact h.cell hu
end Sb
end Go.Proofs.YtlkiancedgaicaaGreat

/- slices.Grow, slices.Concat of records: rows of them, one behind the other, in new memory. -/
namespace Go.Proofs.YtlkiancedgaicaaGreat
open Go.RowKit Ow Wi Ve Rc
namespace Sb
set_option maxRecDepth 100000 in
theorem slice_toR (a : Option Addr) (n cap k : Nat) (h : k ≤ cap) :
    ∃ a', (∀ w, (Instr.slice 48 (.slice a n cap) none (some (.int .i64 (k : Int))) none).run Tryz.prog w = .ok (.slice a' k cap) w) ∧ (∀ pb po, a = some ⟨pb, po, none⟩ → a' = some ⟨pb, po, none⟩) := by
  obtain ⟨j, hj, hs⟩ : ∃ j, Tryz.prog.info? (Tryz.prog.elem 48) = some j ∧ j.size = 7 := by
    have h1 : (Tryz.prog.info? (Tryz.prog.elem 48)).map (·.size) = some 7 := by kernel_rfl
    cases hq : Tryz.prog.info? (Tryz.prog.elem 48) with
    | none => rw [hq] at h1; cases h1
    | some j => rw [hq] at h1; exact ⟨j, rfl, by simpa using h1⟩
  refine ⟨if cap = 0 then a else a.map (·.add 0), fun w => ?_, fun pb po e => ?_⟩
  · rw [run_slice_h w 48 a n cap Tryz.underlying48 .i64 _ (by omega) (by omega), Int.toNat_natCast]
    simp [sizeOf, typeInfo, hj, hs, sliced]
  · rw [e]
    split
    · rfl
    · simp [Addr.add]
set_option maxRecDepth 100000 in
set_option maxHeartbeats 800000 in
theorem growR_any (n : Nat) (w : World) (hn : n ≤ 1000000) :
    Calls Tryz.prog 178 #[.slice none 0 0, .int .i64 n] w fun e w' => ∃ v, e = .returned v ∧ w.grownBy w' none ∧ OwnR w' w.heap.size v [] := by
  have i0 : ¬ (n : Int) < 0 := by omega
  by_cases hz : n = 0
  · subst hz
    go_enter Tryz.func178, Tryz.ntmps178
    go_wp2
    go_ret
    exact ⟨_, rfl, gb_refl _ _, World.ownsRow_nil w _ 66 7⟩
  · have i1 : (0 : Int) < (n : Int) := by omega
    obtain ⟨a0, hs0, _⟩ := slice_toR none 0 0 0 (Nat.le_refl _)
    obtain ⟨i, hi, hzz, hsz, hby⟩ := info_rec
    have hr2 := Lib.run_append_nil_zeros (P := Tryz.prog) w 48 3 48 66 i (.agg z7.toArray) .i64 .i64 Tryz.underlying48 Tryz.underlying3 hi hzz n (by omega) (by omega) (by omega) (by rw [hby]; omega)
    have hge := grownCap_ge w n 0 66
    have hcm : grownCap w n 0 66 ≤ maxLen := grownCap_le_maxLen w n 0 _ (by unfold maxLen; omega)
    have ho : ∀ cur : Array Value, cur.size = grownCap w n 0 66 * 7 → OwnR (w.drew.alloc (.cells cur 66)) w.heap.size (.slice (some ⟨w.heap.size, 0, none⟩) 0 (grownCap w n 0 66)) [] := fun cur hc => World.ownsRow_made w.drew cur _ (Nat.le_refl _) hcm hc
    have ho2 := ho (Builtin.zeroCells (Value.agg z7.toArray).cells n ++ Builtin.zeroCells (Value.agg z7.toArray).cells (grownCap w n 0 66 - n)) (by
      simp only [Array.size_append, size_zeroCells]
      show n * 7 + (grownCap w n 0 66 - n) * 7 = _
      omega)
    have hg2 : w.grownBy (w.drew.alloc (.cells (Builtin.zeroCells (Value.agg z7.toArray).cells n ++ Builtin.zeroCells (Value.agg z7.toArray).cells (grownCap w n 0 66 - n)) 66)) none := gb_alloc (gb_drew (gb_refl _ _)) _
    generalize grownCap w n 0 66 = gc at *
    generalize w.drew.alloc (.cells (Builtin.zeroCells (Value.agg z7.toArray).cells n ++ Builtin.zeroCells (Value.agg z7.toArray).cells (gc - n)) 66) = w2 at *
    obtain ⟨a1, hs1, ha1⟩ := slice_toR (some ⟨w.heap.size, 0, none⟩) n gc 0 (Nat.zero_le _)
    rw [ha1 w.heap.size 0 rfl] at hs1
    have H := Lib.hid (And.intro hg2 ho2); clear ho ho2 hg2
    have HR := Lib.hid hr2; clear hr2
    have HS := Lib.hid (And.intro hs0 hs1); clear hs0 hs1
    go_enter Tryz.func178, Tryz.ntmps178
    go_wp2_with (at_builtin; refine Lib.wpList_append_run w rfl (.tmp 20) (.tmp 21) 48 3 rfl (.slice none 0 0) (.int .i64 (n : Int)) rfl rfl _ _ HR.out ?_)
    go_ret
    exact ⟨_, rfl, H.out.1, H.out.2⟩
/-- sets, in a row, all below block B -/
structure SRow (w : World) (B : Nat) (a : Option Addr) (S : List (List E)) : Prop where
  lim : B ≤ w.heap.size
  cells : S.length = 0 ∨ ∃ pb po, a = some ⟨pb, po, none⟩ ∧ pb < B ∧ ∀ i, i < S.length → ∃ ai ci, w.cell? ⟨pb, po + i, none⟩ = some (.slice ai (S.getD i []).length ci) ∧ RRow w B ai (S.getD i []) ∧ (ai = none → ci = 0)
theorem SRow.stay {w w' : World} {B : Nat} {a : Option Addr} {S : List (List E)} (h : SRow w B a S) (hg : w.grownBy w' none) : SRow w' B a S := by
  refine ⟨Nat.le_trans h.lim hg.size, ?_⟩
  rcases h.cells with h0 | ⟨pb, po, ha, hlt, hc⟩
  · exact Or.inl h0
  · refine Or.inr ⟨pb, po, ha, hlt, fun i hi => ?_⟩
    obtain ⟨ai, ci, h1, h2, h3⟩ := hc i hi
    exact ⟨ai, ci, by rw [gb_cell hg (p := ⟨pb, po + i, none⟩) (Nat.lt_of_lt_of_le hlt h.lim) (by simp)]; exact h1, h2.stay hg, h3⟩
/-- records that lie somewhere, appended to a row of one's own -/
theorem append_recs (w : World) (base B : Nat) (v : Value) (l0 : List E) (a : Option Addr) (m c : Nat) (p : List E) (hown : OwnR w base v l0) (hm : p.length = m) (hp : RRow w B a p) (ha : a = none → c = 0) (hn : l0.length + m ≤ 1000000000) (hbase : base ≤ w.heap.size) :
    ∃ v' w', (Builtin.append_ #[48, 48] 48 #[v, .slice a m c]).run Tryz.prog w = .ok v' w' ∧ OwnR w' base v' (l0 ++ p) ∧ w.grownBy w' v.ownBlock := by
  obtain ⟨i, hi, hz, hs, hb⟩ := info_rec
  rcases a with _ | ad
  · have h0 : p.length = 0 := by
      rcases hp.cells with h | ⟨_, _, h, _⟩
      · exact h
      · cases h
    obtain rfl : p = [] := List.eq_nil_of_length_eq_zero h0
    obtain rfl : m = 0 := by rw [← hm]; rfl
    obtain rfl := ha rfl
    exact ⟨v, w, run_append_owned_none (P := Tryz.prog) w base 48 48 66 i 7 Tryz.underlying48 hi v l0.length _ hown, by simpa using hown, gb_refl _ _⟩
  · obtain ⟨v', w', hr, ho, hg, _⟩ := run_append_own (P := Tryz.prog) w base 48 48 66 i (.agg z7.toArray) 7 112 Tryz.underlying48 hi hz hs hb rfl (by decide) v l0.length (recsC l0) hown ad m c (recsC p) (by rw [recsC_len, hm])
      (fun j u hu => by
        have hj : j < p.length * 7 := by have := (List.getElem?_eq_some_iff.1 hu).1; rwa [recsC_len] at this
        obtain ⟨pb, po, e, _, hc⟩ := hp.cells.resolve_left (by omega)
        cases e
        have e2 : j = j / 7 * 7 + j % 7 := by omega
        rw [e2, recsC_at p (j / 7) (by omega) (j % 7) (Nat.mod_lt _ (by decide))] at hu
        have := hc (j / 7) (by omega) (j % 7) u hu
        rw [Addr.add_lit]
        rw [Nat.add_assoc, ← e2] at this
        exact this) (recsC_cell p) (by unfold maxLen; omega) (by omega) hbase
    exact ⟨v', w', hr, by unfold OwnR; rw [recsC_app, List.length_append, hm]; exact ho, hg⟩
theorem flat_takeE (L : List (List E)) (k : Nat) (hk : k < L.length) : (L.take (k + 1)).flatten = (L.take k).flatten ++ L.getD k [] := by
  rw [List.take_succ_eq_append_getElem hk, List.flatten_append, List.getD_eq_getElem?_getD, List.getElem?_eq_getElem hk]
  simp
theorem flat_leE (L : List (List E)) (k : Nat) : (L.take k).flatten.length ≤ L.flatten.length := by
  conv => rhs; rw [← List.take_append_drop k L]
  rw [List.flatten_append, List.length_append]; omega
theorem SRow.at {w : World} {B : Nat} {a : Option Addr} {S : List (List E)} (h : SRow w B a S) {i : Nat} (hi : i < S.length) : ∃ pb po ai ci, a = some ⟨pb, po, none⟩ ∧ pb < B ∧ w.cell? ⟨pb, po + i, none⟩ = some (.slice ai (S.getD i []).length ci) ∧ RRow w B ai (S.getD i []) ∧ (ai = none → ci = 0) := by
  obtain ⟨pb, po, e, hl, hc⟩ := h.cells.resolve_left (by omega)
  obtain ⟨ai, ci, h1, h2, h3⟩ := hc i hi
  exact ⟨pb, po, ai, ci, e, hl, h1, h2, h3⟩
set_option maxRecDepth 100000 in
set_option maxHeartbeats 1600000 in
theorem concatR_any (m cap B : Nat) (L : List (List E)) (a : Option Addr) (w : World) (hm : L.length = m) (hR : SRow w B a L) (hm2 : m < 9223372036854775808) (hlen : L.flatten.length ≤ 1000000) :
    Calls Tryz.prog 126 #[.slice a m cap] w fun e w' => ∃ v, e = .returned v ∧ w.grownBy w' none ∧ OwnR w' w.heap.size v L.flatten := by
  have HR := Lib.hid hR; clear hR
  have HL := Lib.hid hlen; clear hlen
  have HM := Lib.hid hm; clear hm
  go_enter Tryz.func126, Tryz.ntmps126
  go_wp2_with (fail)
  go_loopw [3, 11] (fun v i wr => ∃ k j : Nat, k ≤ m ∧ i = .int .i64 k ∧ v = .int .i64 ((L.take k).flatten.length : Nat) ∧ wr = w.drewN j) (fun _ i _ => m - (intOf i).toNat)
  case atStart => exact ⟨0, 0, by omega, rfl, rfl, rfl⟩
  case round =>
    obtain ⟨k, j, hk, rfl, rfl, rfl⟩ := hrel
    by_cases hlt : k < m
    · obtain ⟨pb, po, ai, ci, rfl, hpb, k1, hB, _⟩ := HR.out.at (i := k) (by rw [HM.out]; exact hlt)
      have i0 : (k : Int) < (m : Int) := by omega
      have hN := flat_takeE L k (by rw [HM.out]; exact hlt)
      have hN' : (L.take (k + 1)).flatten.length = (L.take k).flatten.length + (L.getD k []).length := by rw [hN, List.length_append]
      have hle := flat_leE L (k + 1)
      have h6 := HL.out
      have i1 : ¬ (((L.take k).flatten.length : Nat) : Int) + (((L.getD k []).length : Nat) : Int) < 0 := by omega
      have i2 : (((L.take k).flatten.length : Nat) : Int) + (((L.getD k []).length : Nat) : Int) ≤ 1000000 := by omega
      clear hN hle h6 hB
      have HN := Lib.hid hN'; clear hN'
      generalize (L.take k).flatten.length = s at *
      generalize (L.getD k []).length = t at *
      go_wp2_with fail
      exact ⟨⟨k + 1, j, by omega, rfl, by rw [HN.out]; rfl, rfl⟩, by show m - ((k : Int) + 1).toNat < m - (k : Int).toNat; omega⟩
    · obtain rfl : k = m := by omega
      clear hlt
      have e0 : L.take k = L := by rw [← HM.out]; exact List.take_length
      rw [e0]
      obtain ⟨s, hs⟩ : ∃ s, s = L.flatten.length := ⟨_, rfl⟩
      rw [← hs] at HL ⊢
      have HS := Lib.hid (And.intro hs e0); clear hs e0
      have gw : w.grownBy (w.drewN j) none := gb_drewN (gb_refl _ _) j
      go_wp2_with (fail)
      refine (growR_any s (w.drewN j) HL.out).mono ?_
      rintro e w1 ⟨v, rfl, hg, ho⟩
      have HG : Hid (w.grownBy w1 none ∧ OwnR w1 w.heap.size v []) := ⟨gb_trans gw hg, ho⟩
      clear hg ho gw
      go_wp2_with (fail)
      go_loopw [6, 27] (fun v i wr => ∃ (q : Nat) (u : Value), u = v ∧ q ≤ k ∧ i = .int .i64 q ∧ w.grownBy wr none ∧ OwnR wr w.heap.size u (L.take q).flatten) (fun _ i _ => k - (intOf i).toNat)
      case atStart => exact ⟨0, _, rfl, by omega, rfl, HG.out⟩
      case round =>
        obtain ⟨q, vr, rfl, hq, rfl, hg, ho⟩ := hrel
        by_cases hlt : q < k
        · obtain ⟨pb, po, ai, ci, rfl, hpb, k1, hB, hnc⟩ := HR.out.at (i := q) (by rw [HM.out]; exact hlt)
          have i0 : (q : Int) < (k : Int) := by omega
          have hN := flat_takeE L q (by rw [HM.out]; exact hlt)
          have hle := flat_leE L (q + 1)
          have h6 := HL.out
          have hB2 := hB.stay hg
          have k2 : wr.cell? ⟨pb, po + q, none⟩ = some (.slice ai (L.getD q []).length ci) := by
            rw [gb_cell hg (p := ⟨pb, po + q, none⟩) (Nat.lt_of_lt_of_le hpb HR.out.lim) (by simp)]; exact k1
          obtain ⟨v2, w2, hr2, ho2, hg2⟩ := append_recs wr w.heap.size B vr _ ai _ ci (L.getD q []) ho rfl hB2 hnc (by have e := HS.out.1; rw [hN, List.length_append, ← e] at hle; omega) hg.size
          have HN := Lib.hid (And.intro hN (And.intro ho2 (gb_ownR hg ho (Nat.le_refl _) hg2))); clear hN hle h6 hB hB2 k1 ho2 hg2 hnc
          have hap := hr2; clear hr2
          obtain ⟨t, ht⟩ : ∃ t, t = (L.getD q []).length := ⟨_, rfl⟩
          rw [← ht] at hap k2
          have HT := Lib.hid ht; clear ht
          go_wp2_with (at_builtin; refine wpList_append_run rfl (.tmp 31) (.tmp 32) 48 rfl rfl _ _ rfl rfl _ _ hap ?_)
          exact ⟨⟨q + 1, _, rfl, by omega, rfl, HN.out.2.2, by rw [HN.out.1]; exact HN.out.2.1⟩, by show k - ((q : Int) + 1).toNat < k - (q : Int).toNat; omega⟩
        · obtain rfl : q = k := by omega
          clear hlt
          have HI := Lib.hid (And.intro hg ho); clear hg ho
          go_wp2_with (fail)
          go_ret
          obtain ⟨hg, ho⟩ := HI.out
          rw [HS.out.2] at ho
          exact ⟨_, rfl, hg, ho⟩
end Sb
end Go.Proofs.YtlkiancedgaicaaGreat

/- Regions that draw their order and only read, as far as the tail: the world is the same throughout. -/
namespace Go.Proofs.YtlkiancedgaicaaGreat
open Go.RowKit
namespace Fg
section
variable {P : Program} {ops : Array Oper} {Q : Exit → Act → World → Prop} {L : List It} {W0 : World} {a0 : Act} {ps : List Nat}
abbrev AtE (k : Nat) (ps : List Nat) (L : List It) (W0 : World) (a0 : Act) (ops : Array Oper) (o : Oper) (a : Act) (w : World) : Prop := AtP k ps L (fun w => w = W0) a0 ops o a w
abbrev StE (k : Nat) (ps : List Nat) (P : Program) (Q : Exit → Act → World → Prop) (L : List It) (W0 : World) (a0 : Act) (ops : Array Oper) (i : Nat) (o : Oper) : Prop := (∃ d, o.dst = some d) ∧ StepP k ps P Q L (fun w => w = W0) a0 ops i o
theorem vE {k i : Nat} {o : Oper} {d : Nat} (hd : o.dst = some d) (hps : (ps.all fun s => s != d) = true)
    (h : ∀ a w, AtE k ps L W0 a0 ops o a w → ∃ v w', Wants ops o a ∧ (execOp a.eval o).run P w = .ok (.value v) w' ∧ w' = w ∧ its L d v w') : StE k ps P Q L W0 a0 ops i o :=
  ⟨⟨d, hd⟩, stepValue hd fun a w hF => by
    obtain ⟨v, w', hw, hr, rfl, hG⟩ := h a w hF
    exact ⟨hw, v, w', hr, hF.base, fun _ _ h => h, ptrs_put hF.ptrs (Nat.le_refl _) (not_in hps), hG⟩⟩
theorem cE {k i : Nat} {o : Oper} {d : Nat} (hd : o.dst = some d) (hps : (ps.all fun s => s != d) = true)
    (h : ∀ a w, AtE k ps L W0 a0 ops o a w → ∃ f args, Wants ops o a ∧ (execOp a.eval o).run P w = .ok (.enter f args) w ∧ Calls P f args w fun e w' => ∃ v, e = .returned v ∧ w' = w ∧ its L d v w') : StE k ps P Q L W0 a0 ops i o :=
  ⟨⟨d, hd⟩, stepCall hd fun a w hF => by
    obtain ⟨f, args, hw, hr, hc⟩ := h a w hF
    refine ⟨hw, f, args, hr, hc.mono fun e w' he => ?_⟩
    obtain ⟨v, rfl, rfl, hG⟩ := he
    exact ⟨v, rfl, hF.base, fun _ _ h => h, ptrs_put hF.ptrs (Nat.le_refl _) (not_in hps), hG⟩⟩
theorem sE {k i : Nat} {o : Oper} {d : Nat} (hd : o.dst = some d) (hps : (ps.all fun s => s != d) = true) (hG : ∀ w, its L d undef w)
    (h : ∀ a w, AtE k ps L W0 a0 ops o a w → Region.wanted o (yielded ops a.tmps) = false) : StE k ps P Q L W0 a0 ops i o :=
  ⟨⟨d, hd⟩, skippedP hd hps hG h⟩
theorem region_e {id : Nat} {w : World} (ps : List Nat) (L : List It) (W0 : World) (k : Nat) (hB0 : w.drew = W0) (hm : P.follows .mixedOrders = true) (ht : topo ops = true) (ho : once (ops.extract 0 k) a0.tmps.size = true) (htl : tailOk ops k = true) (hk : k ≤ ops.size)
    (hu : (ps.all fun s => match a0.tmps.getD s undef with | .pointer _ => false | _ => true) = true)
    (steps : StepsS k ps P Q L (fun w => w = W0) a0 ops 0 (ops.toList.take k))
    (fin : ∀ a w', w' = W0 → a.tmps.size = a0.tmps.size → a.defers = a0.defers → (∀ d, isDstTo ops k d = false → a.tmps.getD d undef = a0.tmps.getD d undef) →
      (∀ d, isDstTo ops k d = true → its L d (a.tmps.getD d undef) w') → PtrsApart ps a w' → wpList P ops Q (ops.toList.drop k) a w') : (Code.region id ops true).wp P Q a0 w :=
  wp_region_tail L (fun w => w = W0) k hB0 hm ht ho htl hk (ptrs_undef hu) steps fin
end
end Fg
end Go.Proofs.YtlkiancedgaicaaGreat

/- must: or a panic. dot, byDot: two records by their dots. -/
namespace Go.Proofs.YtlkiancedgaicaaGreat
open Go.RowKit Ow Wi Ve Rc
namespace Sb
def Dies (e : Ending) : Prop := ∃ u pv, e = .panicked [{ v := .iface u pv, recovered := false }]
theorem smust_yes (w : World) : Calls Tryz.prog 142 #[.bool true] w fun e w' => e = .returned (.tuple #[]) ∧ w' = w := by
  go_enter Tryz.func142, Tryz.ntmps142
  go_wp2
  go_end0
  exact ⟨rfl, rfl⟩
theorem smust_no (w : World) : Calls Tryz.prog 142 #[.bool false] w fun e w' => Dies e ∧ w' = w := by
  go_enter Tryz.func142, Tryz.ntmps142
  go_wp2
  exact ⟨rfl, ⟨_, _, rfl⟩, rfl⟩
theorem compare_any (x y : Int) (w : World) : Calls Tryz.prog 183 #[.int .i64 x, .int .i64 y] w fun e w' => e = .returned (.int .i64 (cmpI x y)) ∧ w' = w := by
  have hn : ∀ (z : Int) (w : World), Calls Tryz.prog 218 #[.int .i64 z] w fun e w' => e = .returned (.bool false) ∧ w' = w := fun z w => by
    go_enter Tryz.func218, Tryz.ntmps218
    go_wp2
    go_ret
    exact ⟨rfl, rfl⟩
  have HN := Lib.hid hn; clear hn
  unfold cmpI
  by_cases h1 : x < y
  · rw [if_pos h1]
    go_enter Tryz.func183, Tryz.ntmps183
    go_wp2_with (refine (HN.out _ _).mono ?_; rintro e w' ⟨rfl, rfl⟩)
    go_ret
    exact ⟨rfl, rfl⟩
  · rw [if_neg h1]
    by_cases h2 : y < x
    · rw [if_pos h2]
      go_enter Tryz.func183, Tryz.ntmps183
      go_wp2_with (refine (HN.out _ _).mono ?_; rintro e w' ⟨rfl, rfl⟩)
      go_ret
      exact ⟨rfl, rfl⟩
    · rw [if_neg h2]
      go_enter Tryz.func183, Tryz.ntmps183
      go_wp2_with (refine (HN.out _ _).mono ?_; rintro e w' ⟨rfl, rfl⟩)
      go_ret
      exact ⟨rfl, rfl⟩
/-- the first that is not 0, of two -/
theorem or_any (x y : Int) (pb : Nat) (w : World) (h0 : w.cell? ⟨pb, 0, none⟩ = some (.int .i64 x)) (h1 : w.cell? ⟨pb, 1, none⟩ = some (.int .i64 y)) :
    Calls Tryz.prog 182 #[.slice (some ⟨pb, 0, none⟩) 2 2] w fun e w' => e = .returned (.int .i64 (if x = 0 then y else x)) ∧ w' = w := by
  by_cases hx : x = 0
  · rw [if_pos hx]
    subst hx
    by_cases hy : y = 0
    · subst hy
      go_enter Tryz.func182, Tryz.ntmps182
      go_wp2
      refine wp_loop_rounds 3 ?_
      rw [rounds_succ]
      go_wp2
      rw [rounds_succ]
      go_wp2
      rw [rounds_succ]
      go_wp2
      go_ret
      exact ⟨rfl, rfl⟩
    · have i1 : (y != 0) = true := by rw [bne_iff_ne]; exact hy
      go_enter Tryz.func182, Tryz.ntmps182
      go_wp2
      refine wp_loop_rounds 2 ?_
      rw [rounds_succ]
      go_wp2
      rw [rounds_succ]
      go_wp2
      go_ret
      exact ⟨rfl, rfl⟩
  · rw [if_neg hx]
    have i1 : (x != 0) = true := by rw [bne_iff_ne]; exact hx
    go_enter Tryz.func182, Tryz.ntmps182
    go_wp2
    refine wp_loop_rounds 1 ?_
    rw [rounds_succ]
    go_wp2
    go_ret
    exact ⟨rfl, rfl⟩
set_option maxHeartbeats 400000 in
set_option maxRecDepth 100000 in
/-- two records by their dots: memory only grows, by blocks of its own -/
theorem byDot_any (x y : E) (w : World) : Calls Tryz.prog 129 #[recV x, recV y] w fun e w' => e = .returned (.int .i64 (cmpD x.2 y.2)) ∧ ∃ q os, w' = Sort.grow (w.drewN q) os := by
  obtain ⟨⟨s, a1, n1, c1, a2, n2, c2, a3, n3, c3⟩, ⟨key, cl, sq, cx, g, val, sig⟩⟩ := x
  obtain ⟨⟨s', a1', n1', c1', a2', n2', c2', a3', n3', c3'⟩, ⟨key', cl', sq', cx', g', val', sig'⟩⟩ := y
  have hC := fun x y w => compare_any x y w
  have HC := Lib.hid hC; clear hC
  obtain ⟨z, hz⟩ : ∃ z, z = if cmpI cl cl' = 0 then cmpI sq sq' else cmpI cl cl' := ⟨_, rfl⟩
  have HO : Hid (∀ (W1 : World) (N : Nat), W1.heap.size = N → Calls Tryz.prog 182 #[.slice (some ⟨N, 0, none⟩) 2 2] (W1.alloc (.cells #[.int .i64 (cmpI cl cl'), .int .i64 (cmpI sq sq')] 3)).drew fun e w' => e = .returned (.int .i64 z) ∧ w' = (W1.alloc (.cells #[.int .i64 (cmpI cl cl'), .int .i64 (cmpI sq sq')] 3)).drew) := fun W1 N hN => by
    have hb := (Blk.new W1 [.int .i64 (cmpI cl cl'), .int .i64 (cmpI sq sq')] 3).drew
    rw [hN] at hb
    rw [hz]
    exact or_any _ _ N _ (hb.cell (i := 0) rfl) (hb.cell (i := 1) rfl)
  show Calls _ _ #[.agg #[.string s, iV cl, iV sq, .slice a1 n1 c1, .bool g, .slice a2 n2 c2, .slice a3 n3 c3], .agg #[.string s', iV cl', iV sq', .slice a1' n1' c1', .bool g', .slice a2' n2' c2', .slice a3' n3' c3']] w fun e w' => e = .returned (.int .i64 (if cmpI cl cl' = 0 then cmpI sq sq' else cmpI cl cl')) ∧ ∃ q os, w' = Sort.grow (w.drewN q) os
  rw [← hz]
  clear hz
  obtain ⟨W0, hW0⟩ : ∃ W0, W0 = (w.alloc (.cells #[.string s, iV cl, iV sq, .slice a1 n1 c1, .bool g, .slice a2 n2 c2, .slice a3 n3 c3] 66)).alloc (.cells #[.string s', iV cl', iV sq', .slice a1' n1' c1', .bool g', .slice a2' n2' c2', .slice a3' n3' c3'] 66) := ⟨_, rfl⟩
  obtain ⟨N, hN⟩ : ∃ N, N = w.heap.size := ⟨_, rfl⟩
  obtain ⟨M, hM⟩ : ∃ M, M = w.heap.size + 1 := ⟨_, rfl⟩
  have hB0 : Blk W0 N 66 [.string s, iV cl, iV sq, .slice a1 n1 c1, .bool g, .slice a2 n2 c2, .slice a3 n3 c3] := by rw [hW0, hN]; exact (Blk.new _ _ _).alloc _
  have hB1 : Blk W0 M 66 [.string s', iV cl', iV sq', .slice a1' n1' c1', .bool g', .slice a2' n2' c2', .slice a3' n3' c3'] := by rw [hW0, hM, ← World.size_alloc]; exact Blk.new _ _ _
  have x1 := hB0.cell (i := 1) rfl
  have x2 := hB0.cell (i := 2) rfl
  have y1 := hB1.cell (i := 1) rfl
  have y2 := hB1.cell (i := 2) rfl
  have HS : Hid (∃ os, W0 = Sort.grow w os) := ⟨_, by rw [hW0, Sort.alloc_eq_grow, Sort.alloc_eq_grow, Sort.grow_grow]⟩
  clear hB0 hB1
  obtain ⟨v0, hv0⟩ : ∃ v, v = Value.agg #[.string s, iV cl, iV sq, .slice a1 n1 c1, .bool g, .slice a2 n2 c2, .slice a3 n3 c3] := ⟨_, rfl⟩
  obtain ⟨v1, hv1⟩ : ∃ v, v = Value.agg #[.string s', iV cl', iV sq', .slice a1' n1' c1', .bool g', .slice a2' n2' c2', .slice a3' n3' c3'] := ⟨_, rfl⟩
  go_enter Tryz.func129, Tryz.ntmps129
  go_wp2_with fail
  rw [← hW0, ← hM, ← hN, ← hv0, ← hv1]
  clear hW0 hN hM hv0 hv1
  refine Fg.region_e [] [.any, .any, .any, .any, .any, .val (Value.pointer (some ⟨N, 1, none⟩)), .val (iV cl), .val (Value.pointer (some ⟨M, 1, none⟩)), .val (iV cl'), .val (Value.int .i64 (cmpI cl cl')), .val (Value.pointer (some ⟨N, 2, none⟩)), .val (iV sq), .val (Value.pointer (some ⟨M, 2, none⟩)), .val (iV sq'), .val (Value.int .i64 (cmpI sq sq'))] W0.drew 10 (rfl) (by kernel_rfl) (by kernel_rfl) (by kernel_rfl) (by kernel_rfl) (by decide) (by kernel_rfl) ?_ ?_
  · refine ⟨Fg.vE rfl (by decide) fun ac w h => ?_, ?_⟩
    · have e2 : ac.tmps.getD 2 undef = Value.pointer (some ⟨N, 0, none⟩) := h.rest 2 (by kernel_rfl)
      refine ⟨Value.pointer (some ⟨N, 1, none⟩), w, wants_none rfl, ?_, rfl, rfl⟩
      clear h
      simp only [execOp, Act.eval, e2]
      go_simp
    refine ⟨Fg.vE rfl (by decide) fun ac w h => ?_, ?_⟩
    · have e5 : ac.tmps.getD 5 undef = Value.pointer (some ⟨N, 1, none⟩) := h.dep 5 (by kernel_rfl)
      have m : w.cell? ⟨N, 1, none⟩ = some (iV cl) := by rw [h.base]; exact x1
      refine ⟨iV cl, w, wants_none rfl, ?_, rfl, rfl⟩
      clear h
      simp only [execOp, Act.eval, e5]
      go_simp
    refine ⟨Fg.vE rfl (by decide) fun ac w h => ?_, ?_⟩
    · have e3 : ac.tmps.getD 3 undef = Value.pointer (some ⟨M, 0, none⟩) := h.rest 3 (by kernel_rfl)
      refine ⟨Value.pointer (some ⟨M, 1, none⟩), w, wants_none rfl, ?_, rfl, rfl⟩
      clear h
      simp only [execOp, Act.eval, e3]
      go_simp
    refine ⟨Fg.vE rfl (by decide) fun ac w h => ?_, ?_⟩
    · have e7 : ac.tmps.getD 7 undef = Value.pointer (some ⟨M, 1, none⟩) := h.dep 7 (by kernel_rfl)
      have m : w.cell? ⟨M, 1, none⟩ = some (iV cl') := by rw [h.base]; exact y1
      refine ⟨iV cl', w, wants_none rfl, ?_, rfl, rfl⟩
      clear h
      simp only [execOp, Act.eval, e7]
      go_simp
    refine ⟨Fg.cE rfl (by decide) fun ac w h => ?_, ?_⟩
    · have e6 : ac.tmps.getD 6 undef = iV cl := h.dep 6 (by kernel_rfl)
      have e8 : ac.tmps.getD 8 undef = iV cl' := h.dep 8 (by kernel_rfl)
      refine ⟨183, #[iV cl, iV cl'], wants_none rfl, Fg.run_call rfl rfl (by simp only [List.map_toArray, List.map_cons, List.map_nil, Act.eval, e6, e8]) (Fg.run_enter Tryz.func183 (by kernel_rfl) (by kernel_rfl)), ?_⟩
      exact (HC.out _ _ _).mono fun _ _ ⟨he, hg⟩ => ⟨_, he, hg, rfl⟩
    refine ⟨Fg.vE rfl (by decide) fun ac w h => ?_, ?_⟩
    · have e2 : ac.tmps.getD 2 undef = Value.pointer (some ⟨N, 0, none⟩) := h.rest 2 (by kernel_rfl)
      refine ⟨Value.pointer (some ⟨N, 2, none⟩), w, wants_none rfl, ?_, rfl, rfl⟩
      clear h
      simp only [execOp, Act.eval, e2]
      go_simp
    refine ⟨Fg.vE rfl (by decide) fun ac w h => ?_, ?_⟩
    · have e10 : ac.tmps.getD 10 undef = Value.pointer (some ⟨N, 2, none⟩) := h.dep 10 (by kernel_rfl)
      have m : w.cell? ⟨N, 2, none⟩ = some (iV sq) := by rw [h.base]; exact x2
      refine ⟨iV sq, w, wants_none rfl, ?_, rfl, rfl⟩
      clear h
      simp only [execOp, Act.eval, e10]
      go_simp
    refine ⟨Fg.vE rfl (by decide) fun ac w h => ?_, ?_⟩
    · have e3 : ac.tmps.getD 3 undef = Value.pointer (some ⟨M, 0, none⟩) := h.rest 3 (by kernel_rfl)
      refine ⟨Value.pointer (some ⟨M, 2, none⟩), w, wants_none rfl, ?_, rfl, rfl⟩
      clear h
      simp only [execOp, Act.eval, e3]
      go_simp
    refine ⟨Fg.vE rfl (by decide) fun ac w h => ?_, ?_⟩
    · have e12 : ac.tmps.getD 12 undef = Value.pointer (some ⟨M, 2, none⟩) := h.dep 12 (by kernel_rfl)
      have m : w.cell? ⟨M, 2, none⟩ = some (iV sq') := by rw [h.base]; exact y2
      refine ⟨iV sq', w, wants_none rfl, ?_, rfl, rfl⟩
      clear h
      simp only [execOp, Act.eval, e12]
      go_simp
    refine ⟨Fg.cE rfl (by decide) fun ac w h => ?_, ?_⟩
    · have e11 : ac.tmps.getD 11 undef = iV sq := h.dep 11 (by kernel_rfl)
      have e13 : ac.tmps.getD 13 undef = iV sq' := h.dep 13 (by kernel_rfl)
      refine ⟨183, #[iV sq, iV sq'], wants_none rfl, Fg.run_call rfl rfl (by simp only [List.map_toArray, List.map_cons, List.map_nil, Act.eval, e11, e13]) (Fg.run_enter Tryz.func183 (by kernel_rfl) (by kernel_rfl)), ?_⟩
      exact (HC.out _ _ _).mono fun _ _ ⟨he, hg⟩ => ⟨_, he, hg, rfl⟩
    trivial
  · intro aq wq hB hsz hdf hrest hslots hpt
    obtain ⟨u5, e5⟩ : ∃ u, aq.tmps.getD 5 undef = u := ⟨_, rfl⟩
    obtain ⟨u6, e6⟩ : ∃ u, aq.tmps.getD 6 undef = u := ⟨_, rfl⟩
    obtain ⟨u7, e7⟩ : ∃ u, aq.tmps.getD 7 undef = u := ⟨_, rfl⟩
    obtain ⟨u8, e8⟩ : ∃ u, aq.tmps.getD 8 undef = u := ⟨_, rfl⟩
    have e9 : aq.tmps.getD 9 undef = Value.int .i64 (cmpI cl cl') := hslots 9 (by kernel_rfl)
    obtain ⟨u10, e10⟩ : ∃ u, aq.tmps.getD 10 undef = u := ⟨_, rfl⟩
    obtain ⟨u11, e11⟩ : ∃ u, aq.tmps.getD 11 undef = u := ⟨_, rfl⟩
    obtain ⟨u12, e12⟩ : ∃ u, aq.tmps.getD 12 undef = u := ⟨_, rfl⟩
    obtain ⟨u13, e13⟩ : ∃ u, aq.tmps.getD 13 undef = u := ⟨_, rfl⟩
    have e14 : aq.tmps.getD 14 undef = Value.int .i64 (cmpI sq sq') := hslots 14 (by kernel_rfl)
    obtain rfl := Fg.frame_is (a := aq) (vs := [v0, v1, Value.pointer (some ⟨N, 0, none⟩), Value.pointer (some ⟨M, 0, none⟩), Value.int .i64 0, u5, u6, u7, u8, Value.int .i64 (cmpI cl cl'), u10, u11, u12, u13, Value.int .i64 (cmpI sq sq'), undef, undef]) hsz ⟨hrest 0 (by kernel_rfl), hrest 1 (by kernel_rfl), hrest 2 (by kernel_rfl), hrest 3 (by kernel_rfl), hrest 4 (by kernel_rfl), e5, e6, e7, e8, e9, e10, e11, e12, e13, e14, hrest 15 (by kernel_rfl), hrest 16 (by kernel_rfl), trivial⟩ hdf
    clear hsz hdf hrest hslots hpt e5 e6 e7 e8 e9 e10 e11 e12 e13 e14
    subst hB
    go_wp2_with (refine (HO.out _ _ (by simp)).mono ?_; rintro e w' ⟨rfl, rfl⟩)
    go_ret
    obtain ⟨os, rfl⟩ := HS.out
    refine ⟨rfl, 1, os ++ #[.cells #[.int .i64 (cmpI cl cl'), .int .i64 (cmpI sq sq')] 3], ?_⟩
    rw [Sort.alloc_eq_grow, Sort.grow_grow, Sort.drew_grow]
    rfl
end Sb
end Go.Proofs.YtlkiancedgaicaaGreat

/- Rows of bytes, in a row of one's own: a row more. -/
namespace Go.Proofs.YtlkiancedgaicaaGreat
open Go.RowKit Ow

theorem elt_bytes : Elt 23 22 24 (.slice none 0 0) := by
  refine ⟨Tryz.underlying22, ?_⟩
  have h : (Tryz.prog.info? 23).map (fun i => (i.zero, i.size, i.bytes)) = some (some (.slice none 0 0), 1, 24) := by kernel_rfl
  cases hi : Tryz.prog.info? 23 with
  | none => rw [hi] at h; cases h
  | some i =>
    rw [hi] at h
    simp only [Option.map_some, Option.some.injEq, Prod.mk.injEq] at h
    exact ⟨i, rfl, h.1, h.2.1, h.2.2, rfl⟩
theorem _root_.Go.World.ownsRow.stay {w w' : World} {base e n : Nat} {v : Value} {xs : List Value} (h : w.ownsRow base e 1 v n xs) (hg : w.grownBy w' none) : w'.ownsRow base e 1 v n xs := by
  refine ⟨h.1, ?_⟩
  rcases h.2 with h0 | ⟨g, c, cur, e1, h1, h2, h3⟩
  · exact Or.inl h0
  · exact Or.inr ⟨g, c, cur, e1, h1, by rw [hg.block g (Array.getElem?_eq_some_iff.1 h2).1 (by simp)]; exact h2, h3⟩
/-- the rows L in a row of one's own; none of them lies in its block -/
def Parts (w : World) (base : Nat) (v : Value) (L : List (List Nat)) : Prop :=
  ∃ xs, w.ownsRow base 23 1 v L.length xs ∧ ∀ i, i < L.length → ∃ a c, xs[i]? = some (.slice a (L.getD i []).length c) ∧ BytesAt w w.heap.size a c (L.getD i []) ∧ ∀ pb po, a = some ⟨pb, po, none⟩ → v.ownBlock ≠ some pb ∧ pb < w.heap.size
theorem Parts.nil (w : World) (base : Nat) : Parts w base (.slice none 0 0) [] := ⟨[], World.ownsRow_nil w _ _ 1, fun i hi => by simp at hi⟩
theorem Parts.stay {w w' : World} {base : Nat} {v : Value} {L : List (List Nat)} (h : Parts w base v L) (hg : w.grownBy w' none) : Parts w' base v L := by
  obtain ⟨xs, ho, hc⟩ := h
  refine ⟨xs, ho.stay hg, fun i hi => ?_⟩
  obtain ⟨a, c, h1, h2, h3⟩ := hc i hi
  exact ⟨a, c, h1, (h2.stay hg).full, fun pb po e => ⟨(h3 pb po e).1, Nat.lt_of_lt_of_le (h3 pb po e).2 hg.size⟩⟩
theorem Parts.rows {w : World} {base : Nat} {v : Value} {L : List (List Nat)} (h : Parts w base v L) : ∃ a cap, v = .slice a L.length cap ∧ RowsAt w w.heap.size a L := by
  obtain ⟨xs, ho, hc⟩ := h
  rcases own_shape ho with ⟨rfl, h0⟩ | ⟨g, c, rfl⟩
  · refine ⟨Option.none, 0, by rw [h0], Nat.le_refl _, Or.inl h0⟩
  · refine ⟨_, c, rfl, Nat.le_refl _, Or.inr ⟨g, 0, rfl, (own_lt ho).1, fun i hi => ?_⟩⟩
    obtain ⟨a, c, h1, h2, _⟩ := hc i hi
    exact ⟨a, c, by rw [Nat.zero_add]; exact own_cell ho h1, h2⟩
theorem getD_push_lt (L : List (List Nat)) (l : List Nat) (i : Nat) (h : i < L.length) : (L ++ [l]).getD i [] = L.getD i [] := by
  rw [List.getD_eq_getElem?_getD, List.getD_eq_getElem?_getD, List.getElem?_append_left h]
theorem getD_push (L : List (List Nat)) (l : List Nat) : (L ++ [l]).getD L.length [] = l := by
  rw [List.getD_eq_getElem?_getD, List.getElem?_append_right (Nat.le_refl _)]; simp
/-- what a row more comes to -/
theorem parts_more {w' : World} {base : Nat} {v' : Value} {L : List (List Nat)} {xs : List Value} {a : Option Addr} {n c : Nat} {l : List Nat} (hl : l.length = n) (hxl : xs.length = L.length)
    (ho : w'.ownsRow base 23 1 v' (L.length + 1) (xs ++ [.slice a n c]))
    (hold : ∀ i, i < L.length → ∃ a c, xs[i]? = some (.slice a (L.getD i []).length c) ∧ BytesAt w' w'.heap.size a c (L.getD i []) ∧ ∀ pb po, a = some ⟨pb, po, none⟩ → v'.ownBlock ≠ some pb ∧ pb < w'.heap.size)
    (hnew : BytesAt w' w'.heap.size a c l ∧ ∀ pb po, a = some ⟨pb, po, none⟩ → v'.ownBlock ≠ some pb ∧ pb < w'.heap.size) : Parts w' base v' (L ++ [l]) := by
  subst hl
  refine ⟨xs ++ [.slice a l.length c], by rw [List.length_append]; exact ho, fun i hi => ?_⟩
  rw [List.length_append, List.length_singleton] at hi
  by_cases h : i < L.length
  · obtain ⟨a1, c1, h1, h2, h3⟩ := hold i h
    rw [getD_push_lt L l i h]
    exact ⟨a1, c1, by rw [List.getElem?_append_left (by omega)]; exact h1, h2, h3⟩
  · obtain rfl : i = L.length := by omega
    rw [getD_push]
    exact ⟨a, c, by rw [← hxl, List.getElem?_append_right (Nat.le_refl _)]; simp, hnew⟩
theorem parts_push (w : World) (base : Nat) (v : Value) (L : List (List Nat)) (a : Option Addr) (n c : Nat) (l : List Nat) (h : Parts w base v L) (hl : l.length = n) (hP : BytesAt w w.heap.size a c l) (hne : ∀ pb po, a = some ⟨pb, po, none⟩ → v.ownBlock ≠ some pb ∧ pb < w.heap.size) (hb : base ≤ w.heap.size) (hk : L.length ≤ 1000000) :
    ∃ v' w', (Builtin.append_ #[22, 22] 22 #[v, .slice (some ⟨w.heap.size, 0, none⟩) 1 1]).run Tryz.prog (w.alloc (.cells #[.slice a n c] 23)) = .ok v' w' ∧ Parts w' base v' (L ++ [l]) ∧ w.grownBy w' v.ownBlock ∧ (∀ g, v'.ownBlock = some g → v.ownBlock = some g ∨ w.heap.size ≤ g) := by
  obtain ⟨xs, ho, hc⟩ := h
  have g0 := gb_alloc (gb_refl w none) (.cells #[.slice a n c] 23)
  have hs0 := g0.size
  have hbx : Blk (w.alloc (.cells #[.slice a n c] 23)) w.heap.size 23 [.slice a n c] := Blk.new w [.slice a n c] 23
  have hnews : ∀ j u, ([.slice a n c] : List Value)[j]? = some u → (w.alloc (.cells #[.slice a n c] 23)).cell? ((⟨w.heap.size, 0, none⟩ : Addr).add j) = some u := fun j u hu => by
    have hadd : (⟨w.heap.size, 0, none⟩ : Addr).add j = ⟨w.heap.size, j, none⟩ := by unfold Addr.add; split <;> simp_all
    rw [hadd]; exact hbx.cell hu
  have h1 : ∀ u ∈ ([.slice a n c] : List Value), u.oneCell' = true := fun u hu => by rw [List.mem_singleton.1 hu]; rfl
  have hxl : xs.length = L.length := by have := ho.1; omega
  generalize w.alloc (.cells #[.slice a n c] 23) = wb at *
  have hPb : BytesAt wb w.heap.size a c l := hP.stay g0
  rcases own_shape ho with ⟨rfl, h0⟩ | ⟨g, cap, rfl⟩
  · obtain rfl : L = [] := List.eq_nil_of_length_eq_zero h0
    obtain ⟨g, c', w', hr, hno, hgr⟩ := append_to_none elt_bytes wb ⟨w.heap.size, 0, none⟩ 1 1 [.slice a n c] (by decide) rfl hnews h1 (by decide) (by decide)
    have hgn := (own_lt hno).2.1
    refine ⟨_, w', hr, ?_, gb_trans g0 hgr, fun g' e => by simp only [Value.ownBlock, Option.some.injEq] at e; omega⟩
    refine parts_more (xs := []) (a := a) (n := n) (c := c) hl rfl (own_down hno (Nat.le_trans hb hs0)) (fun i hi => by simp at hi) ⟨(hPb.stay hgr).full, fun pb po e => ?_⟩
    have h5 := (hne pb po e).2
    have h6 := hgr.size
    exact ⟨fun e2 => by simp only [Value.ownBlock, Option.some.injEq] at e2; omega, by omega⟩
  · have hgl := (own_lt ho).1
    have hop := ho.stay g0
    rcases append_cases elt_bytes wb base g L.length cap xs hop ⟨w.heap.size, 0, none⟩ 1 1 [.slice a n c] rfl hnews h1 (by omega) (by omega) with ⟨_, w', hr, hno, hgr⟩ | ⟨_, c', w', hr, hno, hgr⟩
    · refine ⟨_, w', hr, ?_, gb_trans (gb_row g0 _) hgr, fun g' e => Or.inl e⟩
      refine parts_more (a := a) (n := n) (c := c) hl hxl hno (fun i hi => ?_) ⟨((hPb.full).apart hgr (Or.inr fun pb po e e2 => ?_)).full, fun pb po e => ⟨(hne pb po e).1, by have h5 := (hne pb po e).2; have h6 := hgr.size; omega⟩⟩
      · obtain ⟨a1, c1, e1, e2, e3⟩ := hc i hi
        exact ⟨a1, c1, e1, ((e2.stay g0).apart hgr (Or.inr fun pb po e e4 => (e3 pb po e).1 (by rw [e4]; rfl))).full, fun pb po e => ⟨(e3 pb po e).1, by have h5 := (e3 pb po e).2; have h6 := hgr.size; omega⟩⟩
      · exact (hne pb po e).1 (by rw [e2]; rfl)
    · refine ⟨_, w', hr, ?_, gb_row (gb_trans g0 hgr) _, fun g' e => by simp only [Value.ownBlock, Option.some.injEq] at e; omega⟩
      refine parts_more (a := a) (n := n) (c := c) hl hxl (own_down hno (Nat.le_trans hb hs0)) (fun i hi => ?_) ⟨(hPb.stay hgr).full, fun pb po e => ?_⟩
      · obtain ⟨a1, c1, e1, e2, e3⟩ := hc i hi
        refine ⟨a1, c1, e1, ((e2.stay g0).stay hgr).full, fun pb po e => ?_⟩
        have h5 := (e3 pb po e).2
        have h6 := hgr.size
        exact ⟨fun e2 => by simp only [Value.ownBlock, Option.some.injEq] at e2; omega, by omega⟩
      · have h5 := (hne pb po e).2
        have h6 := hgr.size
        exact ⟨fun e2 => by simp only [Value.ownBlock, Option.some.injEq] at e2; omega, by omega⟩
end Go.Proofs.YtlkiancedgaicaaGreat

/- Regions that draw their order, in short: memory only grows; slices of bytes, rows of them; a tail in text order. -/
namespace Go.Proofs.YtlkiancedgaicaaGreat
open Go.RowKit Ow Wi
/-- a call that answers bytes -/
def YOut (w : World) (l : List Nat) (e : Ending) (w' : World) : Prop := ∃ a c, e = .returned (.slice a l.length c) ∧ w.grownBy w' none ∧ BytesAt w' w'.heap.size a c l
theorem bout_own {w w' : World} {base n : Nat} {v : Value} {l : List Nat} (hg : w.grownBy w' none) (h : w'.ownsRow base 5 1 v n (l.map u8N)) (hn : l.length = n) (hb : ∀ i, l.getD i 0 < 256) : YOut w l (.returned v) w' := by
  subst hn
  obtain ⟨a, c, rfl, _, hB, _⟩ := own_slice h hb
  exact ⟨a, c, rfl, hg, hB⟩
theorem app_byte {p q : List Nat} (hp : ∀ i, p.getD i 0 < 256) (hq : ∀ i, q.getD i 0 < 256) (i : Nat) : (p ++ q).getD i 0 < 256 := by
  rw [List.getD_eq_getElem?_getD, List.getElem?_append]
  split
  · rw [← List.getD_eq_getElem?_getD]; exact hp i
  · rw [← List.getD_eq_getElem?_getD]; exact hq _
theorem flat_byte {L : List (List Nat)} (h : ∀ l ∈ L, ∀ i, l.getD i 0 < 256) : ∀ i, L.flatten.getD i 0 < 256 := by
  induction L with
  | nil => intro i; simp
  | cons l r ih =>
    intro i
    rw [List.flatten_cons]
    exact app_byte (h l (by simp)) (ih fun l hl => h l (by simp [hl])) i
theorem number_out (n : Int) (w : World) : Calls Tryz.prog 13 #[.int .i64 n] w (YOut w (encN n)) :=
  (numF_any n w).mono fun e w' ⟨g, he, hg, _, hb⟩ => ⟨_, 8, by rw [encN_length]; exact he, hg, numF_bytes hb⟩
/-- a row of bytes with its length ahead -/
theorem bytes_out (n : Nat) (l : List Nat) (a : Option Addr) (cap B : Nat) (w : World) (hn : l.length = n) (h : BytesAt w B a cap l) (hl : l.length ≤ 900000) : Calls Tryz.prog 18 #[.slice a n cap] w (YOut w (encN (l.length : Int) ++ l)) := by
  subst hn
  exact (bytesF_any l.length cap B a l w rfl hl h).mono fun e w' ⟨v, he, hg, ho⟩ => he ▸ bout_own hg ho (by rw [List.length_append, encN_length]) (app_byte (encN_byte _) h.byte)
theorem join_out (n : Nat) (L : List (List Nat)) (a : Option Addr) (cap B : Nat) (w : World) (hn : L.length = n) (h : RowsAt w B a L) (hm : L.length < 9223372036854775808) (hl : L.flatten.length ≤ 1000000) (hb : ∀ l ∈ L, ∀ i, l.getD i 0 < 256) : Calls Tryz.prog 14 #[.slice a n cap] w (YOut w L.flatten) := by
  subst hn
  exact (join_any L.length cap B L a w rfl h hm hl).mono fun e w' ⟨v, he, hg, ho⟩ => he ▸ bout_own hg ho rfl (flat_byte hb)
/-- rows of bytes, that a box holds -/
def rowV (p : Option Addr × Nat × List Nat) : Value := .slice p.1 p.2.2.length p.2.1
theorem rows_box {w : World} (T : TypeId) (P : List (Option Addr × Nat × List Nat)) (h : ∀ p ∈ P, ∃ B, BytesAt w B p.1 p.2.1 p.2.2) :
    RowsAt (w.alloc (.cells (P.map rowV).toArray T)) (w.heap.size + 1) (some ⟨w.heap.size, 0, none⟩) (P.map (·.2.2)) := by
  have hb := Blk.new w (P.map rowV) T
  have hg := gb_alloc (gb_refl w none) (.cells (P.map rowV).toArray T)
  refine ⟨by simp, Or.inr ⟨w.heap.size, 0, rfl, by omega, fun i hi => ?_⟩⟩
  rw [List.length_map] at hi
  have e : P[i]? = some P[i] := List.getElem?_eq_getElem hi
  obtain ⟨B, hB⟩ := h P[i] (List.getElem_mem hi)
  have e2 : (P.map (·.2.2)).getD i [] = P[i].2.2 := by rw [List.getD_eq_getElem?_getD, List.getElem?_map, e]; rfl
  refine ⟨P[i].1, P[i].2.1, ?_, ?_⟩
  · rw [Nat.zero_add, e2]
    exact hb.cell (by rw [List.getElem?_map, e]; rfl)
  · rw [e2]
    exact (hB.stay hg).up (Nat.le_trans hB.lim (by omega)) (by simp)
theorem bytes_box {w : World} (l : List Nat) (h : ∀ i, l.getD i 0 < 256) (hl : l.length < 1000000) : BytesAt (w.alloc (.cells (l.map u8N).toArray 5)) (w.heap.size + 1) (some ⟨w.heap.size, 0, none⟩) l.length l :=
  blk_bytes (tl := []) (by rw [List.append_nil]; exact Blk.new w (l.map u8N) _) rfl (Nat.le_refl _) (by omega) h (by omega) (by simp)
namespace Fg
/-- a slice of the bytes l -/
def It.by (l : List Nat) : It := ⟨fun v w => ∃ a cap B, v = .slice a l.length cap ∧ BytesAt w B a cap l, fun _ _ _ ⟨a, cap, B, e, h⟩ hg => ⟨a, cap, B, e, h.stay hg⟩⟩
def It.rws (L : List (List Nat)) : It := ⟨fun v w => ∃ a cap B, v = .slice a L.length cap ∧ RowsAt w B a L, fun _ _ _ ⟨a, cap, B, e, h⟩ hg => ⟨a, cap, B, e, h.stay hg⟩⟩
section
variable {P : Program} {ops : Array Oper} {Q : Exit → Act → World → Prop} {L : List It} {W0 : World} {a0 : Act} {ps : List Nat}
abbrev AtT (k : Nat) (ps : List Nat) (L : List It) (W0 : World) (a0 : Act) (ops : Array Oper) (o : Oper) (a : Act) (w : World) : Prop := AtP k ps L (fun w => W0.grownBy w none) a0 ops o a w
abbrev StT (k : Nat) (ps : List Nat) (P : Program) (Q : Exit → Act → World → Prop) (L : List It) (W0 : World) (a0 : Act) (ops : Array Oper) (i : Nat) (o : Oper) : Prop := (∃ d, o.dst = some d) ∧ StepP k ps P Q L (fun w => W0.grownBy w none) a0 ops i o
theorem vT {k i : Nat} {o : Oper} {d : Nat} (hd : o.dst = some d) (hps : (ps.all fun s => s != d) = true)
    (h : ∀ a w, AtT k ps L W0 a0 ops o a w → ∃ v w', Wants ops o a ∧ (execOp a.eval o).run P w = .ok (.value v) w' ∧ w.grownBy w' none ∧ its L d v w') : StT k ps P Q L W0 a0 ops i o :=
  ⟨⟨d, hd⟩, valueP (fun _ _ h k => gb_trans h k) hd hps fun a w hF => by
    obtain ⟨v, w', hw, hr, hg, hG⟩ := h a w hF
    exact ⟨hw, v, w', hr, hg, hG⟩⟩
theorem cT {k i : Nat} {o : Oper} {d : Nat} (hd : o.dst = some d) (hps : (ps.all fun s => s != d) = true)
    (h : ∀ a w, AtT k ps L W0 a0 ops o a w → ∃ f args, Wants ops o a ∧ (execOp a.eval o).run P w = .ok (.enter f args) w ∧ Calls P f args w fun e w' => ∃ v, e = .returned v ∧ w.grownBy w' none ∧ its L d v w') : StT k ps P Q L W0 a0 ops i o :=
  ⟨⟨d, hd⟩, callP (fun _ _ h k => gb_trans h k) hd hps fun a w hF => by
    obtain ⟨f, args, hw, hr, hc⟩ := h a w hF
    exact ⟨hw, f, args, hr, hc⟩⟩
/-- a new box -/
theorem aT {k i : Nat} {o : Oper} {d : Nat} (T : TypeId) (V : List Value) (hd : o.dst = some d) (hlt : d < a0.tmps.size) (hi : L.getD d .any = .fresh T V W0.heap.size)
    (h : ∀ a w, AtT k ps L W0 a0 ops o a w → Wants ops o a ∧ (execOp a.eval o).run P w = .ok (.value (.pointer (some ⟨w.heap.size, 0, none⟩))) (w.alloc (.cells V.toArray T))) : StT k ps P Q L W0 a0 ops i o :=
  ⟨⟨d, hd⟩, allocP (fun _ _ h k => gb_trans h k) hd hlt fun a w hF => by
    obtain ⟨hw, hr⟩ := h a w hF
    refine ⟨hw, _, hr, World.grownBy_alloc _ _ _, by simp, ?_⟩
    unfold its
    rw [hi]
    exact ⟨w.heap.size, rfl, hF.base.size, Blk.new w V T⟩⟩
theorem sT {k i : Nat} {o : Oper} {d : Nat} (hd : o.dst = some d) (hps : (ps.all fun s => s != d) = true) (hG : ∀ w, its L d undef w)
    (h : ∀ a w, AtT k ps L W0 a0 ops o a w → Region.wanted o (yielded ops a.tmps) = false) : StT k ps P Q L W0 a0 ops i o :=
  ⟨⟨d, hd⟩, skippedP hd hps hG h⟩
theorem region_t {id : Nat} {w : World} (ps : List Nat) (L : List It) (W0 : World) (k : Nat) (hB0 : W0.grownBy w none) (hm : P.follows .mixedOrders = true) (ht : topo ops = true) (ho : once (ops.extract 0 k) a0.tmps.size = true) (htl : tailOk ops k = true) (hk : k ≤ ops.size)
    (hu : (ps.all fun s => match a0.tmps.getD s undef with | .pointer _ => false | _ => true) = true)
    (steps : StepsS k ps P Q L (fun w => W0.grownBy w none) a0 ops 0 (ops.toList.take k))
    (fin : ∀ a w', W0.grownBy w' none → a.tmps.size = a0.tmps.size → a.defers = a0.defers → (∀ d, isDstTo ops k d = false → a.tmps.getD d undef = a0.tmps.getD d undef) →
      (∀ d, isDstTo ops k d = true → its L d (a.tmps.getD d undef) w') → PtrsApart ps a w' → wpList P ops Q (ops.toList.drop k) a w') : (Code.region id ops true).wp P Q a0 w :=
  wp_region_tail L (fun w => W0.grownBy w none) k (gb_drew hB0) hm ht ho htl hk (ptrs_undef hu) steps fin
end
end Fg
end Go.Proofs.YtlkiancedgaicaaGreat

/- Rows of bytes, in a row of one's own: several rows more, out of a box. -/
namespace Go.Proofs.YtlkiancedgaicaaGreat
open Go.RowKit Ow Wi

theorem parts_all {w' : World} {base : Nat} {v' : Value} {L : List (List Nat)} {P : List (Option Addr × Nat × List Nat)} {xs : List Value} (hxl : xs.length = L.length)
    (ho : w'.ownsRow base 23 1 v' (L.length + P.length) (xs ++ P.map rowV))
    (hold : ∀ i, i < L.length → ∃ a c, xs[i]? = some (.slice a (L.getD i []).length c) ∧ BytesAt w' w'.heap.size a c (L.getD i []) ∧ ∀ pb po, a = some ⟨pb, po, none⟩ → v'.ownBlock ≠ some pb ∧ pb < w'.heap.size)
    (hnew : ∀ p ∈ P, BytesAt w' w'.heap.size p.1 p.2.1 p.2.2 ∧ ∀ pb po, p.1 = some ⟨pb, po, none⟩ → v'.ownBlock ≠ some pb ∧ pb < w'.heap.size) : Parts w' base v' (L ++ P.map (·.2.2)) := by
  refine ⟨xs ++ P.map rowV, by rw [List.length_append, List.length_map]; exact ho, fun i hi => ?_⟩
  rw [List.length_append, List.length_map] at hi
  by_cases h : i < L.length
  · obtain ⟨a1, c1, h1, h2, h3⟩ := hold i h
    have e : (L ++ P.map (·.2.2)).getD i [] = L.getD i [] := by rw [List.getD_eq_getElem?_getD, List.getD_eq_getElem?_getD, List.getElem?_append_left h]
    rw [e]
    exact ⟨a1, c1, by rw [List.getElem?_append_left (by omega)]; exact h1, h2, h3⟩
  · obtain ⟨j, rfl⟩ : ∃ j, i = L.length + j := ⟨i - L.length, by omega⟩
    have hj : j < P.length := by omega
    have e0 : P[j]? = some P[j] := List.getElem?_eq_getElem hj
    have e : (L ++ P.map (·.2.2)).getD (L.length + j) [] = P[j].2.2 := by
      rw [List.getD_eq_getElem?_getD, List.getElem?_append_right (by omega), show L.length + j - L.length = j by omega, List.getElem?_map, e0]; rfl
    rw [e]
    obtain ⟨h2, h3⟩ := hnew P[j] (List.getElem_mem hj)
    exact ⟨_, _, by rw [List.getElem?_append_right (by omega), show L.length + j - xs.length = j by omega, List.getElem?_map, e0]; rfl, h2, h3⟩
theorem parts_pushs (w : World) (base b : Nat) (T : TypeId) (v : Value) (L : List (List Nat)) (P : List (Option Addr × Nat × List Nat)) (h : Parts w base v L) (hB : Blk w b T (P.map rowV)) (hvb : v.ownBlock ≠ some b) (hp : 0 < P.length)
    (hP : ∀ p ∈ P, BytesAt w w.heap.size p.1 p.2.1 p.2.2 ∧ ∀ pb po, p.1 = some ⟨pb, po, none⟩ → v.ownBlock ≠ some pb ∧ pb < w.heap.size) (hb : base ≤ w.heap.size) (hk : L.length + P.length ≤ 1000000) :
    ∃ v' w', (Builtin.append_ #[22, 22] 22 #[v, .slice (some ⟨b, 0, none⟩) P.length P.length]).run Tryz.prog w = .ok v' w' ∧ Parts w' base v' (L ++ P.map (·.2.2)) ∧ w.grownBy w' v.ownBlock ∧ (∀ g, v'.ownBlock = some g → v.ownBlock = some g ∨ w.heap.size ≤ g) := by
  obtain ⟨xs, ho, hc⟩ := h
  have hnews : ∀ j u, (P.map rowV)[j]? = some u → w.cell? ((⟨b, 0, none⟩ : Addr).add j) = some u := fun j u hu => by
    have hadd : (⟨b, 0, none⟩ : Addr).add j = ⟨b, j, none⟩ := by unfold Addr.add; split <;> simp_all
    rw [hadd]; exact hB.cell hu
  have h1 : ∀ u ∈ P.map rowV, u.oneCell' = true := fun u hu => by
    obtain ⟨p, _, rfl⟩ := List.mem_map.1 hu; rfl
  have hxl : xs.length = L.length := by have := ho.1; omega
  rcases own_shape ho with ⟨rfl, h0⟩ | ⟨g, cap, rfl⟩
  · obtain rfl : L = [] := List.eq_nil_of_length_eq_zero h0
    obtain ⟨g, c', w', hr, hno, hgr⟩ := append_to_none elt_bytes w ⟨b, 0, none⟩ P.length P.length (P.map rowV) hp (List.length_map _) hnews h1 (by omega) (by omega)
    have hgn := (own_lt hno).2.1
    refine ⟨_, w', hr, ?_, hgr, fun g' e => by simp only [Value.ownBlock, Option.some.injEq] at e; omega⟩
    refine parts_all (xs := []) rfl (by rw [List.length_nil, Nat.zero_add, List.nil_append]; exact own_down hno hb) (fun i hi => by simp at hi) (fun p hp => ⟨((hP p hp).1.stay hgr).full, fun pb po e => ?_⟩)
    have h5 := ((hP p hp).2 pb po e).2
    have h6 := hgr.size
    exact ⟨fun e2 => by simp only [Value.ownBlock, Option.some.injEq] at e2; omega, by omega⟩
  · have hgl := (own_lt ho).1
    rcases append_cases elt_bytes w base g L.length cap xs ho ⟨b, 0, none⟩ P.length P.length (P.map rowV) (List.length_map _) hnews h1 (by omega) (by omega) with ⟨_, w', hr, hno, hgr⟩ | ⟨_, c', w', hr, hno, hgr⟩
    · refine ⟨_, w', hr, ?_, hgr, fun g' e => Or.inl e⟩
      refine parts_all hxl hno (fun i hi => ?_) (fun p hp => ⟨((hP p hp).1.apart hgr (Or.inr fun pb po e e2 => ?_)).full, fun pb po e => ⟨((hP p hp).2 pb po e).1, by have h5 := ((hP p hp).2 pb po e).2; have h6 := hgr.size; omega⟩⟩)
      · obtain ⟨a1, c1, e1, e2, e3⟩ := hc i hi
        exact ⟨a1, c1, e1, (e2.apart hgr (Or.inr fun pb po e e4 => (e3 pb po e).1 (by rw [e4]; rfl))).full, fun pb po e => ⟨(e3 pb po e).1, by have h5 := (e3 pb po e).2; have h6 := hgr.size; omega⟩⟩
      · exact ((hP p hp).2 pb po e).1 (by rw [e2]; rfl)
    · refine ⟨_, w', hr, ?_, gb_row hgr _, fun g' e => by simp only [Value.ownBlock, Option.some.injEq] at e; omega⟩
      refine parts_all hxl (own_down hno hb) (fun i hi => ?_) (fun p hp => ⟨((hP p hp).1.stay hgr).full, fun pb po e => ?_⟩)
      · obtain ⟨a1, c1, e1, e2, e3⟩ := hc i hi
        refine ⟨a1, c1, e1, (e2.stay hgr).full, fun pb po e => ?_⟩
        have h5 := (e3 pb po e).2
        have h6 := hgr.size
        exact ⟨fun e2 => by simp only [Value.ownBlock, Option.some.injEq] at e2; omega, by omega⟩
      · have h5 := ((hP p hp).2 pb po e).2
        have h6 := hgr.size
        exact ⟨fun e2 => by simp only [Value.ownBlock, Option.some.injEq] at e2; omega, by omega⟩
namespace Fg
/-- two rows of bytes, in a box -/
def It.two (n0 : Nat) (x y : List Nat) : It := ⟨fun v w => ∃ b g1 g2, v = .slice (some ⟨b, 0, none⟩) 2 2 ∧ (n0 ≤ b ∧ n0 ≤ g1 ∧ n0 ≤ g2) ∧ Blk w b 23 [.slice (some ⟨g1, 0, none⟩) 8 8, .slice (some ⟨g2, 0, none⟩) 8 8] ∧ Blk w g1 5 (x.map u8N) ∧ Blk w g2 5 (y.map u8N),
  fun _ _ _ ⟨b, g1, g2, e, h, h1, h2, h3⟩ hg => ⟨b, g1, g2, e, h, h1.grown hg (by simp), h2.grown hg (by simp), h3.grown hg (by simp)⟩⟩
end Fg
end Go.Proofs.YtlkiancedgaicaaGreat

/- record.dots: the numbers of dots, one behind the other. (The region printed by gen_rcdots.py.) -/
namespace Go.Proofs.YtlkiancedgaicaaGreat
open Go.RowKit Ow Wi Ve
namespace Rc
/-- the rows of dots -/
def dotR (l : List D) : List (List Nat) := l.flatMap fun d => [encN d.1, encN d.2]
theorem dotR_len (l : List D) : (dotR l).length = 2 * l.length := by
  induction l with
  | nil => rfl
  | cons d r ih => simp only [dotR, List.flatMap_cons, List.length_append, List.length_cons, List.length_nil] at ih ⊢; omega
theorem dotR_flat (l : List D) : (dotR l).flatten = dotsL l := by
  induction l with
  | nil => rfl
  | cons d r ih =>
    have h : (dotR (d :: r)).flatten = encN d.1 ++ (encN d.2 ++ (dotR r).flatten) := rfl
    rw [h, ih]; simp [dotsL, dotL]
theorem dotR_next (l : List D) (k : Nat) (h : k < l.length) {x y : Int} (e : l.getD k z0 = (x, y)) : dotR (l.take (k + 1)) = dotR (l.take k) ++ [encN x, encN y] := by
  rw [List.take_succ_eq_append_getElem h]
  have e2 : l[k] = (x, y) := by rw [← e, List.getD_eq_getElem?_getD, List.getElem?_eq_getElem h]; rfl
  rw [e2]
  simp [dotR]
theorem dotR_byte (l : List D) : ∀ r ∈ dotR l, ∀ i, r.getD i 0 < 256 := fun r hr => by
  obtain ⟨d, _, h⟩ := List.mem_flatMap.1 hr
  simp only [List.mem_cons, List.not_mem_nil, or_false] at h
  rcases h with rfl | rfl <;> exact encN_byte _
theorem dotsL_len (l : List D) : (dotsL l).length = 16 * l.length := by
  induction l with
  | nil => rfl
  | cons d r ih => simp only [dotsL, List.flatMap_cons, List.length_append, dotL, encN_length, List.length_cons] at ih ⊢; omega
theorem _root_.Go.Proofs.YtlkiancedgaicaaGreat.Parts.lt {w : World} {base : Nat} {v : Value} {L : List (List Nat)} (h : Parts w base v L) : ∀ g, v.ownBlock = some g → g < w.heap.size := fun g e => by
  obtain ⟨xs, ho, _⟩ := h
  exact (ho.lt g e).2
theorem _root_.Go.Proofs.YtlkiancedgaicaaGreat.Parts.gb {w w1 w2 w3 : World} {v : Value} {L : List (List Nat)} (h : Parts w1 w.heap.size v L) (hg : w.grownBy w1 none) (hg2 : w1.grownBy w2 none) (hg3 : w2.grownBy w3 v.ownBlock) : w.grownBy w3 none := by
  obtain ⟨xs, ho, _⟩ := h
  exact own_gb (gb_trans hg hg2) (ho.stay hg2) hg3
theorem number_row (n : Int) (n0 : Nat) (w : World) (h : n0 ≤ w.heap.size) : Calls Tryz.prog 13 #[.int .i64 n] w (fun e w' => ∃ v, e = .returned v ∧ w.grownBy w' none ∧ ∃ N, v = .slice (some ⟨N, 0, none⟩) 8 8 ∧ n0 ≤ N ∧ Blk w' N 5 ((encN n).map u8N)) :=
  (numF_any n w).mono fun _ _ ⟨g, he, hg, hn, hb⟩ => ⟨_, he, hg, g, rfl, Nat.le_trans h hn, hb⟩
/-- a slice of the dots l -/
def _root_.Go.Proofs.YtlkiancedgaicaaGreat.Fg.It.dts (l : List D) : Fg.It := ⟨fun v w => ∃ a cap B, v = .slice a l.length cap ∧ DotsAt w B a l, fun _ _ _ ⟨a, cap, B, e, h⟩ hg => ⟨a, cap, B, e, h.stay hg⟩⟩
set_option maxHeartbeats 1000000 in
set_option maxRecDepth 100000 in
theorem dots_out (n cap B : Nat) (l : List D) (a : Option Addr) (w : World) (hn : l.length = n) (h : DotsAt w B a l) (hm : n ≤ 8) :
    Calls Tryz.prog 243 #[.slice a n cap] w (YOut w (dotsL l)) := by
  have H := Lib.hid h; clear h
  have HL := Lib.hid hn; clear hn
  obtain ⟨Q, hQ⟩ : ∃ Q, Q = YOut w (dotsL l) := ⟨_, rfl⟩
  rw [← hQ]
  have HQ := Lib.hid hQ; clear hQ
  go_enter Tryz.func243, Tryz.ntmps243
  go_wp2
  go_loopw [3, 8] (fun v i wr => ∃ (k : Nat) (vr : Value), k ≤ n ∧ i = .int .i64 k ∧ vr = v ∧ Hid (w.grownBy wr none ∧ Parts wr w.heap.size vr (dotR (l.take k)))) (fun _ i _ => n - (intOf i).toNat)
  case atStart => exact ⟨0, _, by omega, rfl, rfl, gb_refl _ _, Parts.nil _ _⟩
  case round =>
    obtain ⟨k, vr, hk, rfl, rfl, HI⟩ := hrel
    by_cases hlt : k < n
    · have i0 : (k : Int) < (n : Int) := by omega
      obtain ⟨pb, po, rfl, hpb, hcs⟩ := (H.out.stay HI.out.1).cells.resolve_left (by rw [HL.out]; omega)
      obtain ⟨k1, k2⟩ := hcs k (by rw [HL.out]; exact hlt)
      obtain ⟨x, y, hxy⟩ : ∃ x y, l.getD k z0 = (x, y) := ⟨_, _, rfl⟩
      have HD := Lib.hid (And.intro (dotR_next l k (by rw [HL.out]; exact hlt) hxy) (And.intro hlt (And.intro hk (show k < 8 by omega))))
      rw [hxy] at k1 k2
      simp only at k1 k2
      clear hcs hxy
      obtain ⟨W1, hW1⟩ : ∃ W1, W1 = wr.alloc (.cells #[iV x, iV y] 127) := ⟨_, rfl⟩
      obtain ⟨N, hN⟩ : ∃ N, N = wr.heap.size := ⟨_, rfl⟩
      have HN : Hid (Blk W1 N 127 [iV x, iV y]) := by show Blk _ _ _ _; rw [hW1, hN]; exact Blk.new wr _ _
      have HN1 : Hid (wr.grownBy W1 none) := by show wr.grownBy _ none; rw [hW1]; exact gb_alloc (gb_refl _ _) _
      go_wp2_with fail
      rw [← hW1, ← hN]
      clear hW1 hN k1 k2
      refine Fg.region_t [] [.any, .any, .any, .any, .any, .any, .any, .any, .any, .any, .any, .any, .val (vr), .val (Value.pointer (some ⟨N, 0, none⟩)), .val (Value.int .i64 x), .row 5 ((encN x).map u8N) 8 W1.heap.size, .val (Value.pointer (some ⟨N, 1, none⟩)), .val (Value.int .i64 y), .row 5 ((encN y).map u8N) 8 W1.heap.size, .two W1.heap.size (encN x) (encN y)] W1 8 (gb_refl _ _) (by kernel_rfl) (by kernel_rfl) (by kernel_rfl) (by kernel_rfl) (by decide) (by kernel_rfl) ?_ ?_
      · refine ⟨Fg.vT rfl (by decide) fun ac w h => ?_, ?_⟩
        · have e3 : ac.tmps.getD 3 undef = vr := h.rest 3 (by kernel_rfl)
          exact ⟨_, w, wants_none rfl, Fg.run_move rfl e3, gb_refl _ _, rfl⟩
        refine ⟨Fg.vT rfl (by decide) fun ac w h => ?_, ?_⟩
        · have e5 : ac.tmps.getD 5 undef = Value.pointer (some ⟨N, 0, none⟩) := h.rest 5 (by kernel_rfl)
          refine ⟨Value.pointer (some ⟨N, 0, none⟩), w, wants_none rfl, ?_, gb_refl _ _, rfl⟩
          clear h
          simp only [execOp, Act.eval, e5]
          go_simp
        refine ⟨Fg.vT rfl (by decide) fun ac w h => ?_, ?_⟩
        · have e13 : ac.tmps.getD 13 undef = Value.pointer (some ⟨N, 0, none⟩) := h.dep 13 (by kernel_rfl)
          have c := ((HN.out.grown h.base (by simp)).cell (i := 0) rfl)
          refine ⟨Value.int .i64 x, w, wants_none rfl, ?_, gb_refl _ _, rfl⟩
          clear h
          simp only [execOp, Act.eval, e13]
          go_simp
        refine ⟨Fg.cT rfl (by decide) fun ac w h => ?_, ?_⟩
        · have e14 : ac.tmps.getD 14 undef = Value.int .i64 x := h.dep 14 (by kernel_rfl)
          refine ⟨13, #[Value.int .i64 x], wants_none rfl, Fg.run_call rfl rfl (by simp only [List.map_toArray, List.map_cons, List.map_nil, Act.eval, e14]) (Fg.run_enter Tryz.func13 (by kernel_rfl) (by kernel_rfl)), ?_⟩
          exact (number_row x W1.heap.size w h.base.size).mono fun _ _ ⟨v, he, hg, hb⟩ => ⟨v, he, hg, hb⟩
        refine ⟨Fg.vT rfl (by decide) fun ac w h => ?_, ?_⟩
        · have e5 : ac.tmps.getD 5 undef = Value.pointer (some ⟨N, 0, none⟩) := h.rest 5 (by kernel_rfl)
          refine ⟨Value.pointer (some ⟨N, 1, none⟩), w, wants_none rfl, ?_, gb_refl _ _, rfl⟩
          clear h
          simp only [execOp, Act.eval, e5]
          go_simp
        refine ⟨Fg.vT rfl (by decide) fun ac w h => ?_, ?_⟩
        · have e16 : ac.tmps.getD 16 undef = Value.pointer (some ⟨N, 1, none⟩) := h.dep 16 (by kernel_rfl)
          have c := ((HN.out.grown h.base (by simp)).cell (i := 1) rfl)
          refine ⟨Value.int .i64 y, w, wants_none rfl, ?_, gb_refl _ _, rfl⟩
          clear h
          simp only [execOp, Act.eval, e16]
          go_simp
        refine ⟨Fg.cT rfl (by decide) fun ac w h => ?_, ?_⟩
        · have e17 : ac.tmps.getD 17 undef = Value.int .i64 y := h.dep 17 (by kernel_rfl)
          refine ⟨13, #[Value.int .i64 y], wants_none rfl, Fg.run_call rfl rfl (by simp only [List.map_toArray, List.map_cons, List.map_nil, Act.eval, e17]) (Fg.run_enter Tryz.func13 (by kernel_rfl) (by kernel_rfl)), ?_⟩
          exact (number_row y W1.heap.size w h.base.size).mono fun _ _ ⟨v, he, hg, hb⟩ => ⟨v, he, hg, hb⟩
        refine ⟨Fg.vT rfl (by decide) fun ac w h => ?_, ?_⟩
        · obtain ⟨g15, e15, n15, b15⟩ : ∃ N, ac.tmps.getD 15 undef = .slice (some ⟨N, 0, none⟩) 8 8 ∧ W1.heap.size ≤ N ∧ Blk w N 5 ((encN x).map u8N) := h.dep 15 (by kernel_rfl)
          obtain ⟨g18, e18, n18, b18⟩ : ∃ N, ac.tmps.getD 18 undef = .slice (some ⟨N, 0, none⟩) 8 8 ∧ W1.heap.size ≤ N ∧ Blk w N 5 ((encN y).map u8N) := h.dep 18 (by kernel_rfl)
          refine ⟨.slice (some ⟨w.heap.size, 0, none⟩) 2 2, w.alloc (.cells #[.slice (some ⟨g15, 0, none⟩) 8 8, .slice (some ⟨g18, 0, none⟩) 8 8] 23), wants_none rfl, ?_, gb_alloc (gb_refl _ _) _, ⟨w.heap.size, g15, g18, rfl, ⟨h.base.size, n15, n18⟩, Blk.new w [.slice (some ⟨g15, 0, none⟩) 8 8, .slice (some ⟨g18, 0, none⟩) 8 8] _, b15.alloc _, b18.alloc _⟩⟩
          clear h
          simp only [execOp, Act.eval, e15, e18, List.map_toArray, List.map_cons, List.map_nil]
          go_simp
        trivial
      · intro aq wq hB hsz hdf hrest hslots hpt
        have e12 : aq.tmps.getD 12 undef = vr := hslots 12 (by kernel_rfl)
        obtain ⟨u13, e13⟩ : ∃ u, aq.tmps.getD 13 undef = u := ⟨_, rfl⟩
        obtain ⟨u14, e14⟩ : ∃ u, aq.tmps.getD 14 undef = u := ⟨_, rfl⟩
        obtain ⟨u15, e15⟩ : ∃ u, aq.tmps.getD 15 undef = u := ⟨_, rfl⟩
        obtain ⟨u16, e16⟩ : ∃ u, aq.tmps.getD 16 undef = u := ⟨_, rfl⟩
        obtain ⟨u17, e17⟩ : ∃ u, aq.tmps.getD 17 undef = u := ⟨_, rfl⟩
        obtain ⟨u18, e18⟩ : ∃ u, aq.tmps.getD 18 undef = u := ⟨_, rfl⟩
        obtain ⟨b19, p19, q19, e19, n19, h19, hp19, hq19⟩ : ∃ b g1 g2, aq.tmps.getD 19 undef = .slice (some ⟨b, 0, none⟩) 2 2 ∧ (W1.heap.size ≤ b ∧ W1.heap.size ≤ g1 ∧ W1.heap.size ≤ g2) ∧ Blk wq b 23 [.slice (some ⟨g1, 0, none⟩) 8 8, .slice (some ⟨g2, 0, none⟩) 8 8] ∧ Blk wq g1 5 ((encN x).map u8N) ∧ Blk wq g2 5 ((encN y).map u8N) := hslots 19 (by kernel_rfl)
        obtain rfl := Fg.frame_is (a := aq) (vs := [Value.slice (some ⟨pb, po, none⟩) n cap, undef, Value.slice none 0 0, vr, undef, Value.pointer (some ⟨N, 0, none⟩), Value.slice (some ⟨pb, po, none⟩) n cap, Value.int .i64 (n : Int), Value.int .i64 (k : Int), Value.bool true, Value.pointer (some ⟨pb, po + k * 2, none⟩), Value.agg #[iV x, iV y], vr, u13, u14, u15, u16, u17, u18, Value.slice (some ⟨b19, 0, none⟩) 2 2, u20, u21, undef, undef]) hsz ⟨hrest 0 (by kernel_rfl), hrest 1 (by kernel_rfl), hrest 2 (by kernel_rfl), hrest 3 (by kernel_rfl), hrest 4 (by kernel_rfl), hrest 5 (by kernel_rfl), hrest 6 (by kernel_rfl), hrest 7 (by kernel_rfl), hrest 8 (by kernel_rfl), hrest 9 (by kernel_rfl), hrest 10 (by kernel_rfl), hrest 11 (by kernel_rfl), e12, e13, e14, e15, e16, e17, e18, e19, hrest 20 (by kernel_rfl), hrest 21 (by kernel_rfl), hrest 22 (by kernel_rfl), hrest 23 (by kernel_rfl), trivial⟩ hdf
        clear hsz hdf hrest hslots hpt e12 e13 e14 e15 e16 e17 e18 e19
        have HP := Lib.hid (HI.out.2.stay (gb_trans HN1.out hB))
        have hlt := HI.out.2.lt
        have hbb := hB.size
        have hww := HN1.out.size
        obtain ⟨v2, w2, hap, hP2, hg2, hnb⟩ := parts_pushs wq w.heap.size b19 _ vr (dotR (l.take k)) [(some ⟨p19, 0, none⟩, 8, encN x), (some ⟨q19, 0, none⟩, 8, encN y)] HP.out (by simpa [rowV, encN_length] using h19) (fun e => by have := hlt _ e; omega) (by simp) (fun p hp => by
          simp only [List.mem_cons, List.not_mem_nil, or_false] at hp
          rcases hp with rfl | rfl
          · exact ⟨numF_bytes hp19, fun pb po e => by cases e; exact ⟨fun e => by have := hlt _ e; omega, hp19.lt⟩⟩
          · exact ⟨numF_bytes hq19, fun pb po e => by cases e; exact ⟨fun e => by have := hlt _ e; omega, hq19.lt⟩⟩) (Nat.le_trans HI.out.1.size (by omega)) (by rw [dotR_len, List.length_take]; have := HD.out.2.2.2; simp; omega)
        have HS := Lib.hid (show w.grownBy w2 none ∧ Parts w2 w.heap.size v2 (dotR (l.take (k + 1))) from ⟨HI.out.2.gb HI.out.1 (gb_trans HN1.out hB) hg2, by rw [HD.out.1]; exact hP2⟩)
        have HA := Lib.hid hap
        clear hP2 hg2 hnb hap hB hlt h19 hp19 hq19 n19 HP hbb hww
        refine wpList_append_run rfl (.tmp 12) (.tmp 19) 22 rfl rfl _ _ rfl rfl _ _ HA.out ?_
        refine Fg.wpl_value (v := v2) (w' := w2) rfl (Fg.run_assign rfl rfl) ?_
        refine wpList_nil ?_
        simp only [Act.put, List.setIfInBounds_toArray, List.set_cons_succ, List.set_cons_zero]
        go_wp2
        go_roundw
        case rel => exact ⟨k + 1, v2, by omega, by go_num, rfl, HS.out⟩
        case measure => simp [intOf]; omega
    · obtain rfl : k = n := by omega
      have e0 : l.take k = l := by rw [← HL.out]; exact List.take_length
      have hP := HI.out.2
      rw [e0] at hP
      obtain ⟨ap, cp, rfl, hR⟩ := hP.rows
      have HJ := Lib.hid (join_out (dotR l).length (dotR l) ap cp _ wr rfl hR (by rw [dotR_len, HL.out]; omega) (by rw [dotR_flat, dotsL_len, HL.out]; omega) (dotR_byte l))
      have HG := Lib.hid HI.out.1
      clear hP hR e0 HI
      rw [dotR_flat] at HJ
      generalize (dotR l).length = m at *
      go_wp2_with fail
      refine HJ.out.mono ?_
      rintro e w2 ⟨a2, c2, rfl, hg, hb⟩
      have HR : Hid (Q (.returned (.slice a2 (dotsL l).length c2)) w2) := by rw [HQ.out]; exact ⟨a2, c2, rfl, gb_trans HG.out hg, hb⟩
      clear hg hb
      go_wp2
      exact HR.out
end Rc
end Go.Proofs.YtlkiancedgaicaaGreat

/- A record at work: its dot, whether it is placed, whether its shape is right. -/
namespace Go.Proofs.YtlkiancedgaicaaGreat
open Go.RowKit Ow Wi Ve
namespace Rc
/-- a record's value, spelled out -/
abbrev vV (s : ByteArray) (cl sq : Int) (a1 : Option Addr) (n1 c1 : Nat) (g : Bool) (a2 : Option Addr) (n2 c2 : Nat) (a3 : Option Addr) (n3 c3 : Nat) : Value :=
  .agg #[.string s, iV cl, iV sq, .slice a1 n1 c1, .bool g, .slice a2 n2 c2, .slice a3 n3 c3]
section
set_option maxHeartbeats 400000 in
theorem dot_any (s : ByteArray) (cl sq : Int) (a1 : Option Addr) (n1 c1 : Nat) (g : Bool) (a2 : Option Addr) (n2 c2 : Nat) (a3 : Option Addr) (n3 c3 : Nat) (w : World) :
    Calls Tryz.prog 237 #[vV s cl sq a1 n1 c1 g a2 n2 c2 a3 n3 c3] w fun e w' => e = .returned (.agg #[iV cl, iV sq]) ∧ w.grownBy w' none := by
  go_enter Tryz.func237, Tryz.ntmps237
  go_wp2
  exact bodyPost_ret (v := .agg #[iV cl, iV sq]) (by simp [results, Tryz.results237, go_sem]) rfl ⟨rfl, gb_alloc (gb_alloc (gb_refl _ _) _) _⟩
set_option maxHeartbeats 400000 in
theorem placed_any (b : Bool) (r : R) (B : Nat) (w : World) (q : L) (h : RAt w B q r) (hb : placedB r = b) :
    Calls Tryz.prog 225 #[q.v r] w fun e w' => e = .returned (.bool b) ∧ w.grownBy w' none := by
  obtain ⟨s, a1, n1, c1, a2, n2, c2, a3, n3, c3⟩ := q
  obtain ⟨key, cl, sq, cx, g, val, sig⟩ := r
  have hl : cx.length = n1 := h.l1
  have HA := Lib.hid (fun w' (hg : w.grownBy w' none) => vright_any B n1 c1 a1 cx w' hl (h.dots.stay hg) h.top)
  have HO := Lib.hid (fun w' B2 a2 c2 (h2 : DotsAt w' B2 a2 [(cl, sq)]) => vright_any B2 1 c2 a2 [(cl, sq)] w' rfl h2 (by decide))
  have HC := Lib.hid (fun w' (hg : w.grownBy w' none) B2 a2 c2 (h2 : DotsAt w' B2 a2 [(cl, sq)]) => vcovers_any B B2 n1 1 c1 c2 a1 a2 cx [(cl, sq)] w' hl rfl (h.dots.stay hg) h2 h.top (by decide))
  clear h hl
  rw [rtB_one] at HO
  rw [← hasB_is] at HC
  have hb' : (okD (cl, sq) && rtB 0 cx && !hasB cx (cl, sq)) = b := hb
  clear hb
  generalize okD (cl, sq) = x at *
  generalize rtB 0 cx = y at *
  generalize hasB cx (cl, sq) = z at *
  show Calls _ _ #[vV s cl sq a1 n1 c1 g a2 n2 c2 a3 n3 c3] w _
  obtain ⟨N, hN⟩ : ∃ N, N = w.heap.size := ⟨_, rfl⟩
  obtain ⟨W0, hW0⟩ : ∃ W0, W0 = w.alloc (.cells #[.string s, iV cl, iV sq, .slice a1 n1 c1, .bool g, .slice a2 n2 c2, .slice a3 n3 c3] 273) := ⟨_, rfl⟩
  have hG0 : w.grownBy W0 none := by rw [hW0]; exact gb_alloc (gb_refl _ _) _
  have hB0 : Blk W0 N 273 [.string s, iV cl, iV sq, .slice a1 n1 c1, .bool g, .slice a2 n2 c2, .slice a3 n3 c3] := by rw [hW0, hN]; exact Blk.new w _ _
  have HG0 := Lib.hid (And.intro hG0 hB0); clear hG0 hB0
  go_enter Tryz.func225, Tryz.ntmps225
  go_wp2_with fail
  rw [← hW0, ← hN]
  clear hW0 hN
  refine (dot_any s cl sq a1 n1 c1 g a2 n2 c2 a3 n3 c3 W0).mono ?_
  rintro e w1 ⟨rfl, hg⟩
  have hD := dots_one w1 cl sq 127
  obtain ⟨W1, hW1⟩ : ∃ W1, W1 = w1.alloc (.cells #[iV cl, iV sq] 127) := ⟨_, rfl⟩
  rw [← hW1] at hD
  have hg1 : w.grownBy W1 none := by rw [hW1]; exact gb_alloc (gb_trans HG0.out.1 hg) _
  have hB1 : Blk W1 N 273 [.string s, iV cl, iV sq, .slice a1 n1 c1, .bool g, .slice a2 n2 c2, .slice a3 n3 c3] := by rw [hW1]; exact (HG0.out.2.grown hg (by simp)).alloc _
  have HG1 := Lib.hid (And.intro hg1 (And.intro hD hB1)); clear hg1 hD hg hB1
  obtain ⟨M, hM⟩ : ∃ M, M = w1.heap.size := ⟨_, rfl⟩
  rw [← hM] at HG1
  go_wp2_with fail
  rw [← hW1, ← hM]
  clear hW1 hM
  refine (HO.out _ _ _ 1 HG1.out.2.1).mono ?_
  rintro e w2 ⟨rfl, hg⟩
  have c3 := (HG1.out.2.2.grown hg (by simp)).cell (i := 3) rfl
  have HG2 := Lib.hid (And.intro (gb_trans HG1.out.1 hg) (HG1.out.2.1.stay hg)); clear hg
  cases x with
  | false =>
    go_wp2
    go_ret
    exact ⟨by rw [← hb']; rfl, HG2.out.1⟩
  | true =>
    go_wp2_with fail
    refine (HA.out _ HG2.out.1).mono ?_
    rintro e w3 ⟨rfl, hg⟩
    have c4 : w3.cell? ⟨N, 3, none⟩ = some (.slice a1 n1 c1) := by rw [gb_cell hg (block_lt_of_cell c3) (by simp)]; exact c3
    have HG3 := Lib.hid (And.intro (gb_trans HG2.out.1 hg) (HG2.out.2.stay hg)); clear hg c3
    cases y with
    | false =>
      go_wp2
      go_ret
      exact ⟨by rw [← hb']; rfl, HG3.out.1⟩
    | true =>
      go_wp2_with fail
      refine (HC.out _ HG3.out.1 _ _ _ HG3.out.2).mono ?_
      rintro e w4 ⟨rfl, hg⟩
      have HG4 := Lib.hid (gb_trans HG3.out.1 hg); clear hg c4
      go_wp2
      go_ret
      exact ⟨by rw [← hb']; simp, HG4.out⟩
set_option maxHeartbeats 400000 in
theorem shaped_any (b : Bool) (r : R) (B : Nat) (w : World) (q : L) (h : RAt w B q r) (hb : shapeB r = b) :
    Calls Tryz.prog 207 #[q.v r] w fun e w' => e = .returned (.bool b) ∧ w.grownBy w' none := by
  have HP := Lib.hid (fun w' (hg : w.grownBy w' none) => placed_any _ r B w' q (h.stay hg) rfl)
  have hk := h.keyLen
  have hv := h.l2
  clear h
  unfold shapeB keyB valB at hb
  generalize placedB r = z at HP hb
  obtain ⟨s, a1, n1, c1, a2, n2, c2, a3, n3, c3⟩ := q
  obtain ⟨key, cl, sq, cx, g, val, sig⟩ := r
  simp only at hk hv hb
  rw [hk, hv] at hb
  clear hk hv
  show Calls _ _ #[vV s cl sq a1 n1 c1 g a2 n2 c2 a3 n3 c3] w _
  replace HP : Hid (∀ w' (hg : w.grownBy w' none), Calls Tryz.prog 225 #[vV s cl sq a1 n1 c1 g a2 n2 c2 a3 n3 c3] w' fun e w'' => e = .returned (.bool z) ∧ w'.grownBy w'' none) := HP
  obtain ⟨N, hN⟩ : ∃ N, N = w.heap.size := ⟨_, rfl⟩
  obtain ⟨W0, hW0⟩ : ∃ W0, W0 = w.alloc (.cells #[.string s, iV cl, iV sq, .slice a1 n1 c1, .bool g, .slice a2 n2 c2, .slice a3 n3 c3] 273) := ⟨_, rfl⟩
  have hG0 : w.grownBy W0 none := by rw [hW0]; exact gb_alloc (gb_refl _ _) _
  have hB0 : Blk W0 N 273 [.string s, iV cl, iV sq, .slice a1 n1 c1, .bool g, .slice a2 n2 c2, .slice a3 n3 c3] := by rw [hW0, hN]; exact Blk.new w _ _
  have HG0 := Lib.hid (And.intro hG0 hB0); clear hG0 hB0
  cases g
  all_goals
    simp only [Bool.false_eq_true, if_true, if_false] at hb
    have HB := Lib.hid hb; clear hb
    go_enter Tryz.func207, Tryz.ntmps207
    by_cases h1 : 1 ≤ s.size
    · have i1 : (1 : Int) ≤ (s.size : Int) := by omega
      by_cases h2 : s.size ≤ 64
      · have i2 : (s.size : Int) ≤ 64 := by omega
        go_wp2_with fail
        rw [← hW0, ← hN]
        clear hW0 hN
        refine (HP.out W0 HG0.out.1).mono ?_
        rintro e w1 ⟨rfl, hg⟩
        have k5 := (HG0.out.2.grown hg (by simp)).cell (i := 5) rfl
        have HG1 := Lib.hid (gb_trans HG0.out.1 hg); clear hg
        cases z with
        | false =>
          have HF : Hid (b = false) := by show b = _; rw [← HB.out]; simp
          go_wp2
          go_ret
          exact ⟨by rw [HF.out]; rfl, HG1.out⟩
        | true =>
          have HE : Hid ((decide (n2 ≤ 1024) = decide ((n2 : Int) ≤ 1024)) ∧ decide (n2 ≤ 0) = decide (n2 = 0)) := ⟨by rw [Bool.eq_iff_iff]; simp; omega, by simp⟩
          go_wp2
          go_ret
          refine ⟨?_, HG1.out⟩
          first
          | exact congrArg (fun x => Ending.returned (Value.bool x)) (show decide ((n2 : Int) ≤ 1024) = b from by have h := HB.out; rw [HE.out.1] at h; rw [← h]; simp [h1, h2])
          | exact congrArg (fun x => Ending.returned (Value.bool x)) (show decide (n2 = 0) = b from by have h := HB.out; rw [HE.out.2] at h; rw [← h]; simp [h1, h2])
      · have i2 : ¬ (s.size : Int) ≤ 64 := by omega
        have HF : Hid (b = false) := by show b = _; rw [← HB.out]; simp [h2]
        go_wp2
        go_ret
        exact ⟨by rw [HF.out]; rfl, by rw [← hW0]; exact HG0.out.1⟩
    · have i1 : ¬ (1 : Int) ≤ (s.size : Int) := by omega
      have HF : Hid (b = false) := by show b = _; rw [← HB.out]; simp [h1]
      go_wp2
      go_ret
      exact ⟨by rw [HF.out]; rfl, by rw [← hW0]; exact HG0.out.1⟩
end
end Rc
end Go.Proofs.YtlkiancedgaicaaGreat

/- A slot that holds bytes of one's own. -/
namespace Go.Proofs.YtlkiancedgaicaaGreat
open Go.RowKit Ow Wi
/-- bytes of one's own, in a block from b on -/
def _root_.Go.Proofs.YtlkiancedgaicaaGreat.Fg.It.ow (b : Nat) (l : List Nat) : Fg.It := ⟨fun v w => w.ownsRow b 5 1 v l.length (l.map u8N), fun v _ _ h hg => h.kept hg (by cases v.ownBlock <;> simp)⟩
end Go.Proofs.YtlkiancedgaicaaGreat

/- (record.work).text: a record's text. (The region printed by gen_rctext.py.) -/
namespace Go.Proofs.YtlkiancedgaicaaGreat
open Go.RowKit Ow Wi Ve
namespace Rc
theorem goneN_byte (g : Bool) (i : Nat) : ([goneN g] : List Nat).getD i 0 < 256 := by
  rcases i with _ | i
  · cases g <;> decide
  · simp
theorem rowL_byte {l : List Nat} (h : ∀ i, l.getD i 0 < 256) : ∀ i, (rowL l).getD i 0 < 256 := app_byte (encN_byte _) h
theorem rowL_len (l : List Nat) : (rowL l).length = 8 + l.length := by unfold rowL; rw [List.length_append, encN_length]
theorem dotsL_byte (l : List D) : ∀ i, (dotsL l).getD i 0 < 256 := by rw [← dotR_flat]; exact flat_byte (dotR_byte l)
set_option maxHeartbeats 4000000 in
set_option maxRecDepth 100000 in
theorem text_own (r : R) (B : Nat) (w : World) (q : L) (h : RAt w B q r) (hb : shapeB r = true) :
    Calls Tryz.prog 236 #[q.v r] w (fun e w' => ∃ v, e = .returned v ∧ w.grownBy w' none ∧ w'.ownsRow w.heap.size 5 1 v (textL r).length ((textL r).map u8N)) := by
  obtain ⟨_, h2, _, h4, h5, _⟩ := shape_of hb
  have hcx : (r.cx.length : Int) ≤ 8 := by have := h4.len (by decide); omega
  have hk := h.keyLen
  clear hb h4
  obtain ⟨s, a1, n1, c1, a2, n2, c2, a3, n3, c3⟩ := q
  obtain ⟨key, cl, sq, cx, g, val, sig⟩ := r
  have hs : strL s = key := h.str
  subst hs
  have l1 : cx.length = n1 := h.l1
  have l2 : val.length = n2 := h.l2
  simp only at h2 h5 hk hcx
  rw [hk] at h2
  have HK : Hid (s.size ≤ 64) := h2
  have HD : Hid (DotsAt w B a1 cx ∧ cx.length = n1 ∧ n1 ≤ 8) := ⟨h.dots, l1, by omega⟩
  have HV : Hid (BytesAt w B a2 c2 val ∧ val.length = n2 ∧ val.length ≤ 1024) := ⟨h.val, l2, h5⟩
  obtain ⟨gl, hgl⟩ : ∃ gl, gl = g := ⟨_, rfl⟩
  have HT : Hid ([[1], rowL (strL s), dotsL [(cl, sq)], encN (n1 : Int), dotsL cx, [goneN gl], rowL val].flatten = textL ⟨strL s, cl, sq, cx, g, val, sig⟩ ∧ [[1], rowL (strL s), dotsL [(cl, sq)], encN (n1 : Int), dotsL cx, [goneN gl], rowL val].flatten.length ≤ 1000000 ∧ ∀ l ∈ [[1], rowL (strL s), dotsL [(cl, sq)], encN (n1 : Int), dotsL cx, [goneN gl], rowL val], ∀ i, l.getD i 0 < 256) := by
    refine ⟨?_, ?_, fun l hl => ?_⟩
    · rw [hgl, ← l1]
      simp [textL, dotsL, R.dot]
    · simp only [List.flatten_cons, List.flatten_nil, List.length_append, List.length_cons, List.length_nil, rowL_len, dotsL_len, encN_length, strL_len]
      omega
    · simp only [List.mem_cons, List.not_mem_nil, or_false] at hl
      rcases hl with rfl | rfl | rfl | rfl | rfl | rfl | rfl
      · intro i; rcases i with _ | i <;> simp
      · exact rowL_byte (strL_byte s)
      · exact dotsL_byte _
      · exact encN_byte _
      · exact dotsL_byte _
      · exact goneN_byte _
      · exact rowL_byte h.val.byte
  clear h l1 l2 h2 h5 hk hcx
  show Calls _ _ #[vV s cl sq a1 n1 c1 g a2 n2 c2 a3 n3 c3] w _
  rw [← HT.out.1]
  obtain ⟨Q, hQ⟩ : ∃ Q : Ending → World → Prop, Q = (fun e w' => ∃ v, e = .returned v ∧ w.grownBy w' none ∧ w'.ownsRow w.heap.size 5 1 v [[1], rowL (strL s), dotsL [(cl, sq)], encN (n1 : Int), dotsL cx, [goneN gl], rowL val].flatten.length ([[1], rowL (strL s), dotsL [(cl, sq)], encN (n1 : Int), dotsL cx, [goneN gl], rowL val].flatten.map u8N)) := ⟨_, rfl⟩
  rw [← hQ]
  have HQ := Lib.hid hQ; clear hQ
  obtain ⟨N, hN⟩ : ∃ N, N = w.heap.size := ⟨_, rfl⟩
  obtain ⟨W0, hW0⟩ : ∃ W0, W0 = w.alloc (.cells #[.string s, iV cl, iV sq, .slice a1 n1 c1, .bool g, .slice a2 n2 c2, .slice a3 n3 c3] 273) := ⟨_, rfl⟩
  have hG0 : w.grownBy W0 none := by rw [hW0]; exact gb_alloc (gb_refl _ _) _
  have hB0 : Blk W0 N 273 [.string s, iV cl, iV sq, .slice a1 n1 c1, .bool gl, .slice a2 n2 c2, .slice a3 n3 c3] := by rw [hW0, hN, hgl]; exact Blk.new w _ _
  have HG0 := Lib.hid (And.intro hG0 hB0); clear hG0 hB0
  go_enter Tryz.func236, Tryz.ntmps236
  cases g
  all_goals
    have HGL := Lib.hid hgl; clear hgl
    go_wp2_with fail
    rw [← hW0, ← hN]
    clear hW0 hN
    have hgl := HGL.out
    refine Fg.region_t [] [.any, .any, Fg.It.ow W0.heap.size [[1], rowL (strL s), dotsL [(cl, sq)], encN (n1 : Int), dotsL cx, [goneN gl], rowL val].flatten, .any, .any, .any, .any, Fg.It.by [1], .val (Value.pointer (some ⟨N, 0, none⟩)), .val (Value.pointer (some ⟨N, 0, none⟩)), .val (Value.string s), Fg.It.by (strL s), Fg.It.by (rowL (strL s)), .val (vV s cl sq a1 n1 c1 gl a2 n2 c2 a3 n3 c3), .val (Value.agg #[iV cl, iV sq]), .dts [(cl, sq)], Fg.It.by (dotsL [(cl, sq)]), .val (Value.pointer (some ⟨N, 0, none⟩)), .val (Value.pointer (some ⟨N, 3, none⟩)), .val (Value.slice a1 n1 c1), .val (Value.int .i64 n1), Fg.It.by (encN (n1 : Int)), .val (Value.pointer (some ⟨N, 0, none⟩)), .val (Value.pointer (some ⟨N, 3, none⟩)), .val (Value.slice a1 n1 c1), Fg.It.by (dotsL cx), .val (Value.int .u8 (goneN gl : Nat)), Fg.It.by [goneN gl], .val (Value.pointer (some ⟨N, 0, none⟩)), .val (Value.pointer (some ⟨N, 5, none⟩)), .val (Value.slice a2 n2 c2), Fg.It.by (rowL val), Fg.It.rws [[1], rowL (strL s), dotsL [(cl, sq)], encN (n1 : Int), dotsL cx, [goneN gl], rowL val], Fg.It.ow W0.heap.size [[1], rowL (strL s), dotsL [(cl, sq)], encN (n1 : Int), dotsL cx, [goneN gl], rowL val].flatten] W0 28 (gb_refl _ _) (by kernel_rfl) (by kernel_rfl) (by kernel_rfl) (by kernel_rfl) (by decide) (by kernel_rfl) ?_ ?_
    · refine ⟨Fg.vT rfl (by decide) fun ac w h => ?_, ?_⟩
      · refine ⟨.slice (some ⟨w.heap.size, 0, none⟩) 1 1, w.alloc (.cells #[.int .u8 1] 5), wants_none rfl, ?_, gb_alloc (gb_refl _ _) _, ⟨_, 1, _, rfl, bytes_box [1] (fun i => by rcases i with _ | i <;> simp) (by decide)⟩⟩
        clear h
        simp only [execOp, Act.eval, List.map_toArray, List.map_cons, List.map_nil]
        go_simp
      refine ⟨Fg.vT rfl (by decide) fun ac w h => ?_, ?_⟩
      · have e1 : ac.tmps.getD 1 undef = Value.pointer (some ⟨N, 0, none⟩) := h.rest 1 (by kernel_rfl)
        refine ⟨Value.pointer (some ⟨N, 0, none⟩), w, wants_none rfl, ?_, gb_refl _ _, rfl⟩
        clear h
        simp only [execOp, Act.eval, e1]
        go_simp
      refine ⟨Fg.vT rfl (by decide) fun ac w h => ?_, ?_⟩
      · have e8 : ac.tmps.getD 8 undef = Value.pointer (some ⟨N, 0, none⟩) := h.dep 8 (by kernel_rfl)
        refine ⟨Value.pointer (some ⟨N, 0, none⟩), w, wants_none rfl, ?_, gb_refl _ _, rfl⟩
        clear h
        simp only [execOp, Act.eval, e8]
        go_simp
      refine ⟨Fg.vT rfl (by decide) fun ac w h => ?_, ?_⟩
      · have e9 : ac.tmps.getD 9 undef = Value.pointer (some ⟨N, 0, none⟩) := h.dep 9 (by kernel_rfl)
        have c := (HG0.out.2.grown h.base (by simp)).cell (i := 0) rfl
        refine ⟨Value.string s, w, wants_none rfl, ?_, gb_refl _ _, rfl⟩
        clear h
        simp only [execOp, Act.eval, e9]
        go_simp
      refine ⟨Fg.vT rfl (by decide) fun ac w h => ?_, ?_⟩
      · have e10 : ac.tmps.getD 10 undef = Value.string s := h.dep 10 (by kernel_rfl)
        obtain ⟨c11, w11, hr11, hg11, hb11⟩ := str_bytes s w (by have := HK.out; omega)
        refine ⟨.slice (some ⟨w.heap.size, 0, none⟩) s.size c11, w11, wants_none rfl, ?_, hg11, ⟨_, _, _, by rw [strL_len], hb11⟩⟩
        clear h hb11 hg11
        simp only [execOp, Act.eval, e10]
        simp [hr11, Result.andThen]
      refine ⟨Fg.cT rfl (by decide) fun ac w h => ?_, ?_⟩
      · obtain ⟨a11, k11, B11, e11, b11⟩ : ∃ x c B, ac.tmps.getD 11 undef = .slice x (strL s).length c ∧ BytesAt w B x c (strL s) := h.dep 11 (by kernel_rfl)
        refine ⟨18, #[Value.slice a11 (strL s).length k11], wants_none rfl, Fg.run_call rfl rfl (by simp only [List.map_toArray, List.map_cons, List.map_nil, Act.eval, e11]) (Fg.run_enter Tryz.func18 (by kernel_rfl) (by kernel_rfl)), ?_⟩
        exact (bytes_out _ (strL s) a11 k11 B11 w rfl b11 (by rw [strL_len]; have := HK.out; omega)).mono fun _ _ ⟨_, _, he, hg, hb⟩ => ⟨_, he, hg, _, _, _, rfl, hb⟩
      refine ⟨Fg.vT rfl (by decide) fun ac w h => ?_, ?_⟩
      · have e1 : ac.tmps.getD 1 undef = Value.pointer (some ⟨N, 0, none⟩) := h.rest 1 (by kernel_rfl)
        have m0 := (HG0.out.2.grown h.base (by simp)).cell (i := 0) rfl
        have m1 := (HG0.out.2.grown h.base (by simp)).cell (i := 1) rfl
        have m2 := (HG0.out.2.grown h.base (by simp)).cell (i := 2) rfl
        have m3 := (HG0.out.2.grown h.base (by simp)).cell (i := 3) rfl
        have m4 := (HG0.out.2.grown h.base (by simp)).cell (i := 4) rfl
        have m5 := (HG0.out.2.grown h.base (by simp)).cell (i := 5) rfl
        have m6 := (HG0.out.2.grown h.base (by simp)).cell (i := 6) rfl
        refine ⟨vV s cl sq a1 n1 c1 gl a2 n2 c2 a3 n3 c3, w, wants_none rfl, ?_, gb_refl _ _, rfl⟩
        clear h
        simp only [execOp, Act.eval, e1]
        go_simp
      refine ⟨Fg.cT rfl (by decide) fun ac w h => ?_, ?_⟩
      · have e13 : ac.tmps.getD 13 undef = vV s cl sq a1 n1 c1 gl a2 n2 c2 a3 n3 c3 := h.dep 13 (by kernel_rfl)
        refine ⟨237, #[vV s cl sq a1 n1 c1 gl a2 n2 c2 a3 n3 c3], wants_none rfl, Fg.run_call rfl rfl (by simp only [List.map_toArray, List.map_cons, List.map_nil, Act.eval, e13]) (Fg.run_enter Tryz.func237 (by kernel_rfl) (by kernel_rfl)), ?_⟩
        exact (dot_any s cl sq a1 n1 c1 gl a2 n2 c2 a3 n3 c3 w).mono fun _ _ ⟨he, hg⟩ => ⟨_, he, hg, rfl⟩
      refine ⟨Fg.vT rfl (by decide) fun ac w h => ?_, ?_⟩
      · have e14 : ac.tmps.getD 14 undef = Value.agg #[iV cl, iV sq] := h.dep 14 (by kernel_rfl)
        refine ⟨.slice (some ⟨w.heap.size, 0, none⟩) 1 1, w.alloc (.cells #[iV cl, iV sq] 127), wants_none rfl, ?_, gb_alloc (gb_refl _ _) _, ⟨_, 1, _, rfl, dots_one w cl sq _⟩⟩
        clear h
        simp only [execOp, Act.eval, e14, List.map_toArray, List.map_cons, List.map_nil]
        go_simp
      refine ⟨Fg.cT rfl (by decide) fun ac w h => ?_, ?_⟩
      · obtain ⟨a15, k15, B15, e15, b15⟩ : ∃ x c B, ac.tmps.getD 15 undef = .slice x [(cl, sq)].length c ∧ DotsAt w B x [(cl, sq)] := h.dep 15 (by kernel_rfl)
        refine ⟨243, #[Value.slice a15 [(cl, sq)].length k15], wants_none rfl, Fg.run_call rfl rfl (by simp only [List.map_toArray, List.map_cons, List.map_nil, Act.eval, e15]) (Fg.run_enter Tryz.func243 (by kernel_rfl) (by kernel_rfl)), ?_⟩
        exact (dots_out 1 k15 B15 [(cl, sq)] a15 w rfl b15 (by decide)).mono fun _ _ ⟨_, _, he, hg, hb⟩ => ⟨_, he, hg, _, _, _, rfl, hb⟩
      refine ⟨Fg.vT rfl (by decide) fun ac w h => ?_, ?_⟩
      · have e1 : ac.tmps.getD 1 undef = Value.pointer (some ⟨N, 0, none⟩) := h.rest 1 (by kernel_rfl)
        refine ⟨Value.pointer (some ⟨N, 0, none⟩), w, wants_none rfl, ?_, gb_refl _ _, rfl⟩
        clear h
        simp only [execOp, Act.eval, e1]
        go_simp
      refine ⟨Fg.vT rfl (by decide) fun ac w h => ?_, ?_⟩
      · have e17 : ac.tmps.getD 17 undef = Value.pointer (some ⟨N, 0, none⟩) := h.dep 17 (by kernel_rfl)
        refine ⟨Value.pointer (some ⟨N, 3, none⟩), w, wants_none rfl, ?_, gb_refl _ _, rfl⟩
        clear h
        simp only [execOp, Act.eval, e17]
        go_simp
      refine ⟨Fg.vT rfl (by decide) fun ac w h => ?_, ?_⟩
      · have e18 : ac.tmps.getD 18 undef = Value.pointer (some ⟨N, 3, none⟩) := h.dep 18 (by kernel_rfl)
        have c := (HG0.out.2.grown h.base (by simp)).cell (i := 3) rfl
        refine ⟨Value.slice a1 n1 c1, w, wants_none rfl, ?_, gb_refl _ _, rfl⟩
        clear h
        simp only [execOp, Act.eval, e18]
        go_simp
      refine ⟨Fg.vT rfl (by decide) fun ac w h => ?_, ?_⟩
      · have e19 : ac.tmps.getD 19 undef = Value.slice a1 n1 c1 := h.dep 19 (by kernel_rfl)
        have x19 : ac.tmps[19]?.getD undef = Value.slice a1 n1 c1 := by simpa using e19
        refine ⟨.int .i64 n1, w, wants_none rfl, ?_, gb_refl _ _, rfl⟩
        clear h e19
        go_simp
      refine ⟨Fg.cT rfl (by decide) fun ac w h => ?_, ?_⟩
      · have e20 : ac.tmps.getD 20 undef = Value.int .i64 n1 := h.dep 20 (by kernel_rfl)
        refine ⟨13, #[Value.int .i64 n1], wants_none rfl, Fg.run_call rfl rfl (by simp only [List.map_toArray, List.map_cons, List.map_nil, Act.eval, e20]) (Fg.run_enter Tryz.func13 (by kernel_rfl) (by kernel_rfl)), ?_⟩
        exact (number_out (n1 : Int) w).mono fun _ _ ⟨_, _, he, hg, hb⟩ => ⟨_, he, hg, _, _, _, rfl, hb⟩
      refine ⟨Fg.vT rfl (by decide) fun ac w h => ?_, ?_⟩
      · have e1 : ac.tmps.getD 1 undef = Value.pointer (some ⟨N, 0, none⟩) := h.rest 1 (by kernel_rfl)
        refine ⟨Value.pointer (some ⟨N, 0, none⟩), w, wants_none rfl, ?_, gb_refl _ _, rfl⟩
        clear h
        simp only [execOp, Act.eval, e1]
        go_simp
      refine ⟨Fg.vT rfl (by decide) fun ac w h => ?_, ?_⟩
      · have e22 : ac.tmps.getD 22 undef = Value.pointer (some ⟨N, 0, none⟩) := h.dep 22 (by kernel_rfl)
        refine ⟨Value.pointer (some ⟨N, 3, none⟩), w, wants_none rfl, ?_, gb_refl _ _, rfl⟩
        clear h
        simp only [execOp, Act.eval, e22]
        go_simp
      refine ⟨Fg.vT rfl (by decide) fun ac w h => ?_, ?_⟩
      · have e23 : ac.tmps.getD 23 undef = Value.pointer (some ⟨N, 3, none⟩) := h.dep 23 (by kernel_rfl)
        have c := (HG0.out.2.grown h.base (by simp)).cell (i := 3) rfl
        refine ⟨Value.slice a1 n1 c1, w, wants_none rfl, ?_, gb_refl _ _, rfl⟩
        clear h
        simp only [execOp, Act.eval, e23]
        go_simp
      refine ⟨Fg.cT rfl (by decide) fun ac w h => ?_, ?_⟩
      · have e24 : ac.tmps.getD 24 undef = Value.slice a1 n1 c1 := h.dep 24 (by kernel_rfl)
        refine ⟨243, #[Value.slice a1 n1 c1], wants_none rfl, Fg.run_call rfl rfl (by simp only [List.map_toArray, List.map_cons, List.map_nil, Act.eval, e24]) (Fg.run_enter Tryz.func243 (by kernel_rfl) (by kernel_rfl)), ?_⟩
        exact (dots_out n1 c1 B cx a1 w HD.out.2.1 (HD.out.1.stay (gb_trans HG0.out.1 h.base)) HD.out.2.2).mono fun _ _ ⟨_, _, he, hg, hb⟩ => ⟨_, he, hg, _, _, _, rfl, hb⟩
      refine ⟨Fg.vT rfl (by decide) fun ac w h => ?_, ?_⟩
      · have e3 : ac.tmps.getD 3 undef = Value.int .u8 (goneN gl : Nat) := (h.rest 3 (by kernel_rfl)).trans (by rw [hgl]; rfl)
        exact ⟨_, w, wants_none rfl, Fg.run_move rfl e3, gb_refl _ _, rfl⟩
      refine ⟨Fg.vT rfl (by decide) fun ac w h => ?_, ?_⟩
      · have e26 : ac.tmps.getD 26 undef = Value.int .u8 (goneN gl : Nat) := h.dep 26 (by kernel_rfl)
        refine ⟨.slice (some ⟨w.heap.size, 0, none⟩) 1 1, w.alloc (.cells #[.int .u8 (goneN gl : Nat)] 5), wants_none rfl, ?_, gb_alloc (gb_refl _ _) _, ⟨_, 1, _, rfl, bytes_box [goneN gl] (goneN_byte gl) (by simp)⟩⟩
        clear h
        simp only [execOp, Act.eval, e26, List.map_toArray, List.map_cons, List.map_nil]
        go_simp
      refine ⟨Fg.vT rfl (by decide) fun ac w h => ?_, ?_⟩
      · have e1 : ac.tmps.getD 1 undef = Value.pointer (some ⟨N, 0, none⟩) := h.rest 1 (by kernel_rfl)
        refine ⟨Value.pointer (some ⟨N, 0, none⟩), w, wants_none rfl, ?_, gb_refl _ _, rfl⟩
        clear h
        simp only [execOp, Act.eval, e1]
        go_simp
      refine ⟨Fg.vT rfl (by decide) fun ac w h => ?_, ?_⟩
      · have e28 : ac.tmps.getD 28 undef = Value.pointer (some ⟨N, 0, none⟩) := h.dep 28 (by kernel_rfl)
        refine ⟨Value.pointer (some ⟨N, 5, none⟩), w, wants_none rfl, ?_, gb_refl _ _, rfl⟩
        clear h
        simp only [execOp, Act.eval, e28]
        go_simp
      refine ⟨Fg.vT rfl (by decide) fun ac w h => ?_, ?_⟩
      · have e29 : ac.tmps.getD 29 undef = Value.pointer (some ⟨N, 5, none⟩) := h.dep 29 (by kernel_rfl)
        have c := (HG0.out.2.grown h.base (by simp)).cell (i := 5) rfl
        refine ⟨Value.slice a2 n2 c2, w, wants_none rfl, ?_, gb_refl _ _, rfl⟩
        clear h
        simp only [execOp, Act.eval, e29]
        go_simp
      refine ⟨Fg.cT rfl (by decide) fun ac w h => ?_, ?_⟩
      · have e30 : ac.tmps.getD 30 undef = Value.slice a2 n2 c2 := h.dep 30 (by kernel_rfl)
        refine ⟨18, #[Value.slice a2 n2 c2], wants_none rfl, Fg.run_call rfl rfl (by simp only [List.map_toArray, List.map_cons, List.map_nil, Act.eval, e30]) (Fg.run_enter Tryz.func18 (by kernel_rfl) (by kernel_rfl)), ?_⟩
        exact (bytes_out n2 val a2 c2 B w HV.out.2.1 (HV.out.1.stay (gb_trans HG0.out.1 h.base)) (by have := HV.out.2.2; omega)).mono fun _ _ ⟨_, _, he, hg, hb⟩ => ⟨_, he, hg, _, _, _, rfl, hb⟩
      refine ⟨Fg.vT rfl (by decide) fun ac w h => ?_, ?_⟩
      · obtain ⟨a7, k7, B7, e7, b7⟩ : ∃ x c B, ac.tmps.getD 7 undef = .slice x [1].length c ∧ BytesAt w B x c [1] := h.dep 7 (by kernel_rfl)
        obtain ⟨a12, k12, B12, e12, b12⟩ : ∃ x c B, ac.tmps.getD 12 undef = .slice x (rowL (strL s)).length c ∧ BytesAt w B x c (rowL (strL s)) := h.dep 12 (by kernel_rfl)
        obtain ⟨a16, k16, B16, e16, b16⟩ : ∃ x c B, ac.tmps.getD 16 undef = .slice x (dotsL [(cl, sq)]).length c ∧ BytesAt w B x c (dotsL [(cl, sq)]) := h.dep 16 (by kernel_rfl)
        obtain ⟨a21, k21, B21, e21, b21⟩ : ∃ x c B, ac.tmps.getD 21 undef = .slice x (encN (n1 : Int)).length c ∧ BytesAt w B x c (encN (n1 : Int)) := h.dep 21 (by kernel_rfl)
        obtain ⟨a25, k25, B25, e25, b25⟩ : ∃ x c B, ac.tmps.getD 25 undef = .slice x (dotsL cx).length c ∧ BytesAt w B x c (dotsL cx) := h.dep 25 (by kernel_rfl)
        obtain ⟨a27, k27, B27, e27, b27⟩ : ∃ x c B, ac.tmps.getD 27 undef = .slice x [goneN gl].length c ∧ BytesAt w B x c [goneN gl] := h.dep 27 (by kernel_rfl)
        obtain ⟨a31, k31, B31, e31, b31⟩ : ∃ x c B, ac.tmps.getD 31 undef = .slice x (rowL val).length c ∧ BytesAt w B x c (rowL val) := h.dep 31 (by kernel_rfl)
        refine ⟨.slice (some ⟨w.heap.size, 0, none⟩) 7 7, w.alloc (.cells #[.slice a7 [1].length k7, .slice a12 (rowL (strL s)).length k12, .slice a16 (dotsL [(cl, sq)]).length k16, .slice a21 (encN (n1 : Int)).length k21, .slice a25 (dotsL cx).length k25, .slice a27 [goneN gl].length k27, .slice a31 (rowL val).length k31] 23), wants_none rfl, ?_, gb_alloc (gb_refl _ _) _, ⟨_, 7, _, rfl, rows_box _ [(a7, k7, [1]), (a12, k12, rowL (strL s)), (a16, k16, dotsL [(cl, sq)]), (a21, k21, encN (n1 : Int)), (a25, k25, dotsL cx), (a27, k27, [goneN gl]), (a31, k31, rowL val)] (fun p hp => by
            simp only [List.mem_cons, List.not_mem_nil, or_false] at hp
            rcases hp with rfl | rfl | rfl | rfl | rfl | rfl | rfl
            · exact ⟨_, b7⟩
            · exact ⟨_, b12⟩
            · exact ⟨_, b16⟩
            · exact ⟨_, b21⟩
            · exact ⟨_, b25⟩
            · exact ⟨_, b27⟩
            · exact ⟨_, b31⟩)⟩⟩
        clear h
        simp only [execOp, Act.eval, e7, e12, e16, e21, e25, e27, e31, List.map_toArray, List.map_cons, List.map_nil]
        go_simp
      refine ⟨Fg.cT rfl (by decide) fun ac w h => ?_, ?_⟩
      · obtain ⟨a32, k32, B32, e32, b32⟩ : ∃ x c B, ac.tmps.getD 32 undef = .slice x [[1], rowL (strL s), dotsL [(cl, sq)], encN (n1 : Int), dotsL cx, [goneN gl], rowL val].length c ∧ RowsAt w B x [[1], rowL (strL s), dotsL [(cl, sq)], encN (n1 : Int), dotsL cx, [goneN gl], rowL val] := h.dep 32 (by kernel_rfl)
        refine ⟨14, #[Value.slice a32 [[1], rowL (strL s), dotsL [(cl, sq)], encN (n1 : Int), dotsL cx, [goneN gl], rowL val].length k32], wants_none rfl, Fg.run_call rfl rfl (by simp only [List.map_toArray, List.map_cons, List.map_nil, Act.eval, e32]) (Fg.run_enter Tryz.func14 (by kernel_rfl) (by kernel_rfl)), ?_⟩
        exact (join_any 7 k32 B32 [[1], rowL (strL s), dotsL [(cl, sq)], encN (n1 : Int), dotsL cx, [goneN gl], rowL val] a32 w rfl b32 (by simp) HT.out.2.1).mono fun _ _ ⟨_, he, hg, ho⟩ => ⟨_, he, hg, own_down ho h.base.size⟩
      refine ⟨Fg.vT rfl (by decide) fun ac w h => ?_, ?_⟩
      · obtain ⟨v33, e33, b33⟩ : ∃ v, ac.tmps.getD 33 undef = v ∧ w.ownsRow W0.heap.size 5 1 v [[1], rowL (strL s), dotsL [(cl, sq)], encN (n1 : Int), dotsL cx, [goneN gl], rowL val].flatten.length ([[1], rowL (strL s), dotsL [(cl, sq)], encN (n1 : Int), dotsL cx, [goneN gl], rowL val].flatten.map u8N) := ⟨_, rfl, h.dep 33 (by kernel_rfl)⟩
        exact ⟨_, w, wants_none rfl, Fg.run_assign rfl e33, gb_refl _ _, b33⟩
      trivial
    · intro aq wq hB hsz hdf hrest hslots hpt
      obtain ⟨u0, e0⟩ : ∃ u, aq.tmps.getD 0 undef = u := ⟨_, rfl⟩
      obtain ⟨v2, e2, b2⟩ : ∃ v, aq.tmps.getD 2 undef = v ∧ wq.ownsRow W0.heap.size 5 1 v [[1], rowL (strL s), dotsL [(cl, sq)], encN (n1 : Int), dotsL cx, [goneN gl], rowL val].flatten.length ([[1], rowL (strL s), dotsL [(cl, sq)], encN (n1 : Int), dotsL cx, [goneN gl], rowL val].flatten.map u8N) := ⟨_, rfl, hslots 2 (by kernel_rfl)⟩
      obtain ⟨u3, e3⟩ : ∃ u, aq.tmps.getD 3 undef = u := ⟨_, rfl⟩
      obtain ⟨u6, e6⟩ : ∃ u, aq.tmps.getD 6 undef = u := ⟨_, rfl⟩
      obtain ⟨u7, e7⟩ : ∃ u, aq.tmps.getD 7 undef = u := ⟨_, rfl⟩
      obtain ⟨u8, e8⟩ : ∃ u, aq.tmps.getD 8 undef = u := ⟨_, rfl⟩
      obtain ⟨u9, e9⟩ : ∃ u, aq.tmps.getD 9 undef = u := ⟨_, rfl⟩
      obtain ⟨u10, e10⟩ : ∃ u, aq.tmps.getD 10 undef = u := ⟨_, rfl⟩
      obtain ⟨u11, e11⟩ : ∃ u, aq.tmps.getD 11 undef = u := ⟨_, rfl⟩
      obtain ⟨u12, e12⟩ : ∃ u, aq.tmps.getD 12 undef = u := ⟨_, rfl⟩
      obtain ⟨u13, e13⟩ : ∃ u, aq.tmps.getD 13 undef = u := ⟨_, rfl⟩
      obtain ⟨u14, e14⟩ : ∃ u, aq.tmps.getD 14 undef = u := ⟨_, rfl⟩
      obtain ⟨u15, e15⟩ : ∃ u, aq.tmps.getD 15 undef = u := ⟨_, rfl⟩
      obtain ⟨u16, e16⟩ : ∃ u, aq.tmps.getD 16 undef = u := ⟨_, rfl⟩
      obtain ⟨u17, e17⟩ : ∃ u, aq.tmps.getD 17 undef = u := ⟨_, rfl⟩
      obtain ⟨u18, e18⟩ : ∃ u, aq.tmps.getD 18 undef = u := ⟨_, rfl⟩
      obtain ⟨u19, e19⟩ : ∃ u, aq.tmps.getD 19 undef = u := ⟨_, rfl⟩
      obtain ⟨u20, e20⟩ : ∃ u, aq.tmps.getD 20 undef = u := ⟨_, rfl⟩
      obtain ⟨u21, e21⟩ : ∃ u, aq.tmps.getD 21 undef = u := ⟨_, rfl⟩
      obtain ⟨u22, e22⟩ : ∃ u, aq.tmps.getD 22 undef = u := ⟨_, rfl⟩
      obtain ⟨u23, e23⟩ : ∃ u, aq.tmps.getD 23 undef = u := ⟨_, rfl⟩
      obtain ⟨u24, e24⟩ : ∃ u, aq.tmps.getD 24 undef = u := ⟨_, rfl⟩
      obtain ⟨u25, e25⟩ : ∃ u, aq.tmps.getD 25 undef = u := ⟨_, rfl⟩
      obtain ⟨u26, e26⟩ : ∃ u, aq.tmps.getD 26 undef = u := ⟨_, rfl⟩
      obtain ⟨u27, e27⟩ : ∃ u, aq.tmps.getD 27 undef = u := ⟨_, rfl⟩
      obtain ⟨u28, e28⟩ : ∃ u, aq.tmps.getD 28 undef = u := ⟨_, rfl⟩
      obtain ⟨u29, e29⟩ : ∃ u, aq.tmps.getD 29 undef = u := ⟨_, rfl⟩
      obtain ⟨u30, e30⟩ : ∃ u, aq.tmps.getD 30 undef = u := ⟨_, rfl⟩
      obtain ⟨u31, e31⟩ : ∃ u, aq.tmps.getD 31 undef = u := ⟨_, rfl⟩
      obtain ⟨u32, e32⟩ : ∃ u, aq.tmps.getD 32 undef = u := ⟨_, rfl⟩
      obtain ⟨u33, e33⟩ : ∃ u, aq.tmps.getD 33 undef = u := ⟨_, rfl⟩
      obtain rfl := Fg.frame_is (a := aq) (vs := [u0, Value.pointer (some ⟨N, 0, none⟩), v2, u3, Value.pointer (some ⟨N, 0, none⟩), Value.pointer (some ⟨N, 4, none⟩), u6, u7, u8, u9, u10, u11, u12, u13, u14, u15, u16, u17, u18, u19, u20, u21, u22, u23, u24, u25, u26, u27, u28, u29, u30, u31, u32, u33]) hsz ⟨e0, hrest 1 (by kernel_rfl), e2, e3, hrest 4 (by kernel_rfl), hrest 5 (by kernel_rfl), e6, e7, e8, e9, e10, e11, e12, e13, e14, e15, e16, e17, e18, e19, e20, e21, e22, e23, e24, e25, e26, e27, e28, e29, e30, e31, e32, e33, trivial⟩ hdf
      clear hsz hdf hrest hslots hpt e0 e2 e3 e6 e7 e8 e9 e10 e11 e12 e13 e14 e15 e16 e17 e18 e19 e20 e21 e22 e23 e24 e25 e26 e27 e28 e29 e30 e31 e32 e33
      have HR : Hid (Q (.returned v2) wq) := by rw [HQ.out]; exact ⟨_, rfl, gb_trans HG0.out.1 hB, own_down b2 HG0.out.1.size⟩
      clear b2 hB
      refine wpList_nil ?_
      go_wp2
      exact HR.out
end Rc
end Go.Proofs.YtlkiancedgaicaaGreat

/- record.Text, Right, Put: what they tell of any record. (Printed by gen_rccalls.py.) -/
namespace Go.Proofs.YtlkiancedgaicaaGreat
open Go.RowKit Ow Wi Ve
namespace Rc
def textO (r : R) : List Nat := if shapeB r then textL r else []
def putO (r : R) : List Nat := if rightB r then putL r else []
def errN (b : Bool) (n : Int) : Int := if b then 0 else n
theorem text_small {w : World} {B : Nat} {q : L} {r : R} (h : RAt w B q r) (hs : shapeB r = true) : (textL r).length ≤ 2000 ∧ ∀ i, (textL r).getD i 0 < 256 := by
  obtain ⟨_, h2, _, h4, h5, _⟩ := shape_of hs
  have hcx : (r.cx.length : Int) ≤ 8 := by have := h4.len (by decide); omega
  have hk : ∀ i, r.key.getD i 0 < 256 := by rw [← h.str]; exact strL_byte _
  have e : textL r = [1] ++ (rowL r.key ++ (dotsL [r.dot] ++ (encN (r.cx.length : Int) ++ (dotsL r.cx ++ ([goneN r.gone] ++ rowL r.val))))) := by simp [textL, dotsL]
  rw [e]
  refine ⟨?_, app_byte (fun i => by rcases i with _ | i <;> simp) (app_byte (rowL_byte hk) (app_byte (dotsL_byte _) (app_byte (encN_byte _) (app_byte (dotsL_byte _) (app_byte (goneN_byte _) (rowL_byte h.val.byte))))))⟩
  simp only [List.length_append, List.length_cons, List.length_nil, rowL_len, dotsL_len, encN_length]
  omega
theorem text_out (r : R) (B : Nat) (w : World) (q : L) (h : RAt w B q r) (hb : shapeB r = true) : Calls Tryz.prog 236 #[q.v r] w (YOut w (textL r)) :=
  (text_own r B w q h hb).mono fun _ _ ⟨_, he, hg, ho⟩ => he ▸ bout_own hg ho rfl (text_small h hb).2
/-- bytes of one's own -/
def TOwn (w : World) (l : List Nat) (e : Ending) (w' : World) : Prop := ∃ v, e = .returned v ∧ w.grownBy w' none ∧ w'.ownsRow w.heap.size 5 1 v l.length (l.map u8N)
theorem town_nil (w w' : World) (hg : w.grownBy w' none) : TOwn w [] (.returned (.slice none 0 0)) w' := ⟨_, rfl, hg, World.ownsRow_nil _ _ _ _⟩
theorem town_from {w0 w w' : World} {l : List Nat} {e : Ending} (h : TOwn w l e w') (hg : w0.grownBy w none) : TOwn w0 l e w' := by
  obtain ⟨v, he, hg2, hb⟩ := h
  exact ⟨v, he, gb_trans hg hg2, own_down hb hg.size⟩
def POwn (w : World) (l : List Nat) (n : Int) (e : Ending) (w' : World) : Prop := ∃ v, e = .returned (.tuple #[v, .int .i64 n]) ∧ w.grownBy w' none ∧ w'.ownsRow w.heap.size 5 1 v l.length (l.map u8N)
theorem bout_nil (w w' : World) (hg : w.grownBy w' none) : YOut w [] (.returned (.slice none 0 0)) w' := ⟨none, 0, rfl, hg, Nat.le_refl _, Nat.le_refl _, by decide, fun i => by simp, Or.inl rfl⟩
theorem bout_from {w0 w w' : World} {l : List Nat} {e : Ending} (h : YOut w l e w') (hg : w0.grownBy w none) : YOut w0 l e w' := by
  obtain ⟨a, c, he, hg2, hb⟩ := h
  exact ⟨a, c, he, gb_trans hg hg2, hb⟩
set_option maxHeartbeats 1000000 in
theorem rtext_own (r : R) (B : Nat) (w : World) (q : L) (h : RAt w B q r) : Calls Tryz.prog 223 #[q.v r] w (TOwn w (textO r)) := by
  have HS := Lib.hid (fun w' (hg : w.grownBy w' none) => shaped_any (shapeB r) r B w' q (h.stay hg) rfl)
  have HT := Lib.hid (fun (hs : shapeB r = true) w' (hg : w.grownBy w' none) => text_own r B w' q (h.stay hg) hs)
  clear h
  obtain ⟨Q, hQ⟩ : ∃ Q, Q = TOwn w (textO r) := ⟨_, rfl⟩
  rw [← hQ]
  unfold textO at hQ
  generalize textL r = T at HT hQ
  cases hb : shapeB r with
  | false =>
    rw [hb] at HS hQ
    clear HT
    have HQ : Hid (∀ w', w.grownBy w' none → Q (.returned (.slice none 0 0)) w') := fun w' hg => by rw [hQ]; exact town_nil w w' hg
    clear hQ hb
    obtain ⟨s, a1, n1, c1, a2, n2, c2, a3, n3, c3⟩ := q
    obtain ⟨key, cl, sq, cx, g, val, sig⟩ := r
    replace HS : Hid (∀ w' (_ : w.grownBy w' none), Calls Tryz.prog 207 #[vV s cl sq a1 n1 c1 g a2 n2 c2 a3 n3 c3] w' fun e w'' => e = .returned (.bool false) ∧ w'.grownBy w'' none) := HS
    show Calls _ _ #[vV s cl sq a1 n1 c1 g a2 n2 c2 a3 n3 c3] w _
    go_enter Tryz.func223, Tryz.ntmps223
    go_wp2_with fail
    refine (HS.out _ (gb_alloc (gb_alloc (gb_refl _ _) _) _)).mono ?_
    rintro e w1 ⟨rfl, hg⟩
    have HG := Lib.hid (gb_trans (gb_alloc (gb_alloc (gb_refl _ _) _) _) hg); clear hg
    go_wp2
    exact HQ.out _ HG.out
  | true =>
    rw [hb] at HS
    replace HT := Lib.hid (HT.out hb)
    rw [hb, if_pos rfl] at hQ
    clear hb
    have HQ : Hid (∀ w' e w'', w.grownBy w' none → TOwn w' T e w'' → Q e w'') := fun w' e w'' hg ho => by rw [hQ]; exact town_from ho hg
    clear hQ
    obtain ⟨s, a1, n1, c1, a2, n2, c2, a3, n3, c3⟩ := q
    obtain ⟨key, cl, sq, cx, g, val, sig⟩ := r
    replace HS : Hid (∀ w' (_ : w.grownBy w' none), Calls Tryz.prog 207 #[vV s cl sq a1 n1 c1 g a2 n2 c2 a3 n3 c3] w' fun e w'' => e = .returned (.bool true) ∧ w'.grownBy w'' none) := HS
    replace HT : Hid (∀ w' (_ : w.grownBy w' none), Calls Tryz.prog 236 #[vV s cl sq a1 n1 c1 g a2 n2 c2 a3 n3 c3] w' (TOwn w' T)) := HT
    show Calls _ _ #[vV s cl sq a1 n1 c1 g a2 n2 c2 a3 n3 c3] w _
    obtain ⟨N, hN⟩ : ∃ N, N = w.heap.size + 1 := ⟨_, rfl⟩
    obtain ⟨W0, hW0⟩ : ∃ W0, W0 = (w.alloc (.cells #[.string s, iV cl, iV sq, .slice a1 n1 c1, .bool g, .slice a2 n2 c2, .slice a3 n3 c3] 66)).alloc (.cells #[.string s, iV cl, iV sq, .slice a1 n1 c1, .bool g, .slice a2 n2 c2, .slice a3 n3 c3] 273) := ⟨_, rfl⟩
    have hG0 : w.grownBy W0 none := by rw [hW0]; exact gb_alloc (gb_alloc (gb_refl _ _) _) _
    have hB0 : Blk W0 N 273 [.string s, iV cl, iV sq, .slice a1 n1 c1, .bool g, .slice a2 n2 c2, .slice a3 n3 c3] := by rw [hW0, hN, ← World.size_alloc]; exact Blk.new _ _ _
    have HG0 := Lib.hid (And.intro hG0 hB0); clear hG0 hB0
    go_enter Tryz.func223, Tryz.ntmps223
    go_wp2_with fail
    rw [← hW0, ← hN]
    clear hW0 hN
    refine (HS.out _ HG0.out.1).mono ?_
    rintro e w1 ⟨rfl, hg⟩
    have hB1 := HG0.out.2.grown hg (by simp)
    have m0 := hB1.cell (i := 0) rfl
    have m1 := hB1.cell (i := 1) rfl
    have m2 := hB1.cell (i := 2) rfl
    have m3 := hB1.cell (i := 3) rfl
    have m4 := hB1.cell (i := 4) rfl
    have m5 := hB1.cell (i := 5) rfl
    have m6 := hB1.cell (i := 6) rfl
    have HG := Lib.hid (gb_trans HG0.out.1 hg); clear hg hB1
    go_wp2_with fail
    refine (HT.out _ HG.out).mono ?_
    rintro e w2 ho
    have HO := Lib.hid (HQ.out _ _ _ HG.out ho)
    obtain ⟨v, rfl, _⟩ := ho
    go_wp2
    exact HO.out
theorem textO_lt {w : World} {B : Nat} {q : L} {r : R} (h : RAt w B q r) : ∀ i, (textO r).getD i 0 < 256 := by
  unfold textO
  cases hs : shapeB r with
  | false => simp
  | true => exact (text_small h hs).2
theorem rtext_any (r : R) (B : Nat) (w : World) (q : L) (h : RAt w B q r) : Calls Tryz.prog 223 #[q.v r] w (YOut w (textO r)) :=
  (rtext_own r B w q h).mono fun _ _ ⟨_, he, hg, ho⟩ => he ▸ bout_own hg ho rfl (textO_lt h)
set_option maxHeartbeats 1000000 in
theorem rright_any (r : R) (B : Nat) (w : World) (q : L) (h : RAt w B q r) : Calls Tryz.prog 179 #[q.v r] w fun e w' => e = .returned (.bool (rightB r)) ∧ w.grownBy w' none := by
  have HS := Lib.hid (fun w' (hg : w.grownBy w' none) => shaped_any (shapeB r) r B w' q (h.stay hg) rfl)
  have hl := h.l3
  clear h
  obtain ⟨b, hb⟩ : ∃ b, b = rightB r := ⟨_, rfl⟩
  rw [← hb]
  unfold rightB at hb
  rw [hl] at hb
  clear hl
  generalize shapeB r = x at HS hb
  obtain ⟨s, a1, n1, c1, a2, n2, c2, a3, n3, c3⟩ := q
  obtain ⟨key, cl, sq, cx, g, val, sig⟩ := r
  replace HS : Hid (∀ w' (_ : w.grownBy w' none), Calls Tryz.prog 207 #[vV s cl sq a1 n1 c1 g a2 n2 c2 a3 n3 c3] w' fun e w'' => e = .returned (.bool x) ∧ w'.grownBy w'' none) := HS
  show Calls _ _ #[vV s cl sq a1 n1 c1 g a2 n2 c2 a3 n3 c3] w _
  obtain ⟨N, hN⟩ : ∃ N, N = w.heap.size := ⟨_, rfl⟩
  obtain ⟨W0, hW0⟩ : ∃ W0, W0 = w.alloc (.cells #[.string s, iV cl, iV sq, .slice a1 n1 c1, .bool g, .slice a2 n2 c2, .slice a3 n3 c3] 66) := ⟨_, rfl⟩
  have hG0 : w.grownBy W0 none := by rw [hW0]; exact gb_alloc (gb_refl _ _) _
  have hB0 : Blk W0 N 66 [.string s, iV cl, iV sq, .slice a1 n1 c1, .bool g, .slice a2 n2 c2, .slice a3 n3 c3] := by rw [hW0, hN]; exact Blk.new _ _ _
  have HG0 := Lib.hid (And.intro hG0 hB0); clear hG0 hB0
  have HB := Lib.hid hb; clear hb
  go_enter Tryz.func179, Tryz.ntmps179
  go_wp2_with fail
  rw [← hW0, ← hN]
  clear hW0 hN
  refine (HS.out _ HG0.out.1).mono ?_
  rintro e w1 ⟨rfl, hg⟩
  have m6 := (HG0.out.2.grown hg (by simp)).cell (i := 6) rfl
  have HG := Lib.hid (gb_trans HG0.out.1 hg); clear hg
  cases x with
  | false =>
    go_wp2
    go_ret
    exact ⟨by rw [HB.out]; rfl, HG.out⟩
  | true =>
    by_cases h3 : n3 = 64
    · subst h3
      go_wp2
      go_ret
      exact ⟨by rw [HB.out]; rfl, HG.out⟩
    · have i3 : ((n3 : Int) == 64) = false := by rw [beq_eq_false_iff_ne]; omega
      have HF : Hid (b = false) := by show _ = _; rw [HB.out]; simp [h3]
      clear h3
      go_wp2
      go_ret
      exact ⟨by rw [HF.out]; rfl, HG.out⟩
def POut (w : World) (l : List Nat) (n : Int) (e : Ending) (w' : World) : Prop := ∃ a c, e = .returned (.tuple #[.slice a l.length c, .int .i64 n]) ∧ w.grownBy w' none ∧ BytesAt w' w'.heap.size a c l
set_option maxHeartbeats 1000000 in
theorem rput_own (r : R) (B : Nat) (w : World) (q : L) (h : RAt w B q r) : Calls Tryz.prog 197 #[q.v r] w (POwn w (putO r) (errN (rightB r) 4)) := by
  have HS := Lib.hid (fun w' (hg : w.grownBy w' none) => rright_any r B w' q (h.stay hg))
  cases hb : rightB r with
  | false =>
    rw [hb] at HS
    have HQ : Hid (∀ w', w.grownBy w' none → POwn w (putO r) (errN false 4) (.returned (.tuple #[.slice none 0 0, .int .i64 4])) w') := fun w' hg => by
      unfold putO
      rw [hb]
      exact ⟨_, rfl, hg, World.ownsRow_nil _ _ _ _⟩
    clear h hb
    generalize POwn w (putO r) (errN false 4) = Q at *
    obtain ⟨s, a1, n1, c1, a2, n2, c2, a3, n3, c3⟩ := q
    obtain ⟨key, cl, sq, cx, g, val, sig⟩ := r
    replace HS : Hid (∀ w' (_ : w.grownBy w' none), Calls Tryz.prog 179 #[vV s cl sq a1 n1 c1 g a2 n2 c2 a3 n3 c3] w' fun e w'' => e = .returned (.bool false) ∧ w'.grownBy w'' none) := HS
    show Calls _ _ #[vV s cl sq a1 n1 c1 g a2 n2 c2 a3 n3 c3] w _
    go_enter Tryz.func197, Tryz.ntmps197
    go_wp2_with fail
    refine (HS.out _ (gb_alloc (gb_refl _ _) _)).mono ?_
    rintro e w1 ⟨rfl, hg⟩
    have HG := Lib.hid (gb_trans (gb_alloc (gb_refl _ _) _) hg); clear hg
    go_wp2
    exact HQ.out _ HG.out
  | true =>
    rw [hb] at HS
    have hs : shapeB r = true := by simp only [rightB, Bool.and_eq_true] at hb; exact hb.1
    have HT := Lib.hid (fun w' (hg : w.grownBy w' none) => rtext_any r B w' q (h.stay hg))
    have HQ : Hid (∀ w' v, w.grownBy w' none → w'.ownsRow w.heap.size 5 1 v [textL r, r.sig].flatten.length ([textL r, r.sig].flatten.map u8N) → POwn w (putO r) (errN true 4) (.returned (.tuple #[v, .int .i64 0])) w') := fun w' v hg hB => by
      have e : [textL r, r.sig].flatten = putO r := by unfold putO; rw [hb]; simp [putL]
      rw [e] at hB
      exact ⟨v, rfl, hg, hB⟩
    have e : textO r = textL r := by unfold textO; rw [hs]; rfl
    rw [e] at HT
    have l3 := h.l3
    have hsh := shape_of hs
    have hT : (textL r).length ≤ 2000 ∧ ∀ i, (textL r).getD i 0 < 256 := text_small h hs
    have HL : Hid (([textL r, r.sig].flatten).length ≤ 1000000 ∧ ∀ l ∈ [textL r, r.sig], ∀ i, l.getD i 0 < 256) := by
      have h64 : r.sig.length = 64 := by simp only [rightB, Bool.and_eq_true, decide_eq_true_eq] at hb; exact hb.2
      refine ⟨by simp only [List.flatten_cons, List.flatten_nil, List.length_append, List.length_nil, h64]; omega, fun l hl => ?_⟩
      simp only [List.mem_cons, List.not_mem_nil, or_false] at hl
      rcases hl with rfl | rfl
      · exact hT.2
      · exact h.sig.byte
    have HSG := Lib.hid (And.intro h.sig l3)
    generalize textL r = T at *
    clear h hb hs e hsh hT l3
    generalize POwn w (putO r) (errN true 4) = Q at *
    obtain ⟨s, a1, n1, c1, a2, n2, c2, a3, n3, c3⟩ := q
    obtain ⟨key, cl, sq, cx, g, val, sig⟩ := r
    replace HS : Hid (∀ w' (_ : w.grownBy w' none), Calls Tryz.prog 179 #[vV s cl sq a1 n1 c1 g a2 n2 c2 a3 n3 c3] w' fun e w'' => e = .returned (.bool true) ∧ w'.grownBy w'' none) := HS
    replace HT : Hid (∀ w' (_ : w.grownBy w' none), Calls Tryz.prog 223 #[vV s cl sq a1 n1 c1 g a2 n2 c2 a3 n3 c3] w' (YOut w' T)) := HT
    replace HSG : Hid (BytesAt w B a3 c3 sig ∧ sig.length = n3) := HSG
    simp only at HL HQ
    show Calls _ _ #[vV s cl sq a1 n1 c1 g a2 n2 c2 a3 n3 c3] w _
    obtain ⟨N, hN⟩ : ∃ N, N = w.heap.size := ⟨_, rfl⟩
    obtain ⟨W0, hW0⟩ : ∃ W0, W0 = w.alloc (.cells #[.string s, iV cl, iV sq, .slice a1 n1 c1, .bool g, .slice a2 n2 c2, .slice a3 n3 c3] 66) := ⟨_, rfl⟩
    have hG0 : w.grownBy W0 none := by rw [hW0]; exact gb_alloc (gb_refl _ _) _
    have hB0 : Blk W0 N 66 [.string s, iV cl, iV sq, .slice a1 n1 c1, .bool g, .slice a2 n2 c2, .slice a3 n3 c3] := by rw [hW0, hN]; exact Blk.new _ _ _
    have HG0 := Lib.hid (And.intro hG0 hB0); clear hG0 hB0
    go_enter Tryz.func197, Tryz.ntmps197
    go_wp2_with fail
    rw [← hW0, ← hN]
    clear hW0 hN
    refine (HS.out _ HG0.out.1).mono ?_
    rintro e w1 ⟨rfl, hg⟩
    have HG := Lib.hid (And.intro (gb_trans HG0.out.1 hg) (HG0.out.2.grown hg (by simp))); clear hg HG0
    go_wp2_with fail
    refine Fg.region_t [] [.any, .any, Fg.It.ow w1.heap.size [T, sig].flatten, .val (Value.int .i64 0), .any, .any, .any, .val (vV s cl sq a1 n1 c1 g a2 n2 c2 a3 n3 c3), Fg.It.by T, .val (Value.pointer (some ⟨N, 6, none⟩)), .val (Value.slice a3 n3 c3), Fg.It.rws [T, sig], Fg.It.ow w1.heap.size [T, sig].flatten] w1 8 (gb_refl _ _) (by kernel_rfl) (by kernel_rfl) (by kernel_rfl) (by kernel_rfl) (by decide) (by kernel_rfl) ?_ ?_
    · refine ⟨Fg.vT rfl (by decide) fun ac w h => ?_, ?_⟩
      · have e1 : ac.tmps.getD 1 undef = Value.pointer (some ⟨N, 0, none⟩) := h.rest 1 (by kernel_rfl)
        have m0 := (HG.out.2.grown h.base (by simp)).cell (i := 0) rfl
        have m1 := (HG.out.2.grown h.base (by simp)).cell (i := 1) rfl
        have m2 := (HG.out.2.grown h.base (by simp)).cell (i := 2) rfl
        have m3 := (HG.out.2.grown h.base (by simp)).cell (i := 3) rfl
        have m4 := (HG.out.2.grown h.base (by simp)).cell (i := 4) rfl
        have m5 := (HG.out.2.grown h.base (by simp)).cell (i := 5) rfl
        have m6 := (HG.out.2.grown h.base (by simp)).cell (i := 6) rfl
        refine ⟨vV s cl sq a1 n1 c1 g a2 n2 c2 a3 n3 c3, w, wants_none rfl, ?_, gb_refl _ _, rfl⟩
        clear h
        simp only [execOp, Act.eval, e1]
        go_simp
      refine ⟨Fg.cT rfl (by decide) fun ac w h => ?_, ?_⟩
      · have e7 : ac.tmps.getD 7 undef = vV s cl sq a1 n1 c1 g a2 n2 c2 a3 n3 c3 := h.dep 7 (by kernel_rfl)
        refine ⟨223, #[vV s cl sq a1 n1 c1 g a2 n2 c2 a3 n3 c3], wants_none rfl, Fg.run_call rfl rfl (by simp only [List.map_toArray, List.map_cons, List.map_nil, Act.eval, e7]) (Fg.run_enter Tryz.func223 (by kernel_rfl) (by kernel_rfl)), ?_⟩
        exact (HT.out w (gb_trans HG.out.1 h.base)).mono fun _ _ ⟨_, _, he, hg, hb⟩ => ⟨_, he, hg, _, _, _, rfl, hb⟩
      refine ⟨Fg.vT rfl (by decide) fun ac w h => ?_, ?_⟩
      · have e1 : ac.tmps.getD 1 undef = Value.pointer (some ⟨N, 0, none⟩) := h.rest 1 (by kernel_rfl)
        refine ⟨Value.pointer (some ⟨N, 6, none⟩), w, wants_none rfl, ?_, gb_refl _ _, rfl⟩
        clear h
        simp only [execOp, Act.eval, e1]
        go_simp
      refine ⟨Fg.vT rfl (by decide) fun ac w h => ?_, ?_⟩
      · have e9 : ac.tmps.getD 9 undef = Value.pointer (some ⟨N, 6, none⟩) := h.dep 9 (by kernel_rfl)
        have c := (HG.out.2.grown h.base (by simp)).cell (i := 6) rfl
        refine ⟨Value.slice a3 n3 c3, w, wants_none rfl, ?_, gb_refl _ _, rfl⟩
        clear h
        simp only [execOp, Act.eval, e9]
        go_simp
      refine ⟨Fg.vT rfl (by decide) fun ac w h => ?_, ?_⟩
      · obtain ⟨a8, k8, B8, e8, b8⟩ : ∃ x c B, ac.tmps.getD 8 undef = .slice x T.length c ∧ BytesAt w B x c T := h.dep 8 (by kernel_rfl)
        have e10 : ac.tmps.getD 10 undef = Value.slice a3 n3 c3 := h.dep 10 (by kernel_rfl)
        have hbx : RowsAt (w.alloc (.cells #[.slice a8 T.length k8, .slice a3 n3 c3] 23)) (w.heap.size + 1) (some ⟨w.heap.size, 0, none⟩) [T, sig] := by
          rw [← HSG.out.2]
          exact rows_box _ [(a8, k8, T), (a3, c3, sig)] (fun p hp => by
            simp only [List.mem_cons, List.not_mem_nil, or_false] at hp
            rcases hp with rfl | rfl
            · exact ⟨_, b8⟩
            · exact ⟨_, HSG.out.1.stay (gb_trans HG.out.1 h.base)⟩)
        refine ⟨.slice (some ⟨w.heap.size, 0, none⟩) 2 2, w.alloc (.cells #[.slice a8 T.length k8, .slice a3 n3 c3] 23), wants_none rfl, ?_, gb_alloc (gb_refl _ _) _, ⟨_, 2, _, rfl, hbx⟩⟩
        clear h
        simp only [execOp, Act.eval, e8, e10, List.map_toArray, List.map_cons, List.map_nil]
        go_simp
      refine ⟨Fg.cT rfl (by decide) fun ac w h => ?_, ?_⟩
      · obtain ⟨a11, k11, B11, e11, b11⟩ : ∃ x c B, ac.tmps.getD 11 undef = .slice x [T, sig].length c ∧ RowsAt w B x [T, sig] := h.dep 11 (by kernel_rfl)
        refine ⟨14, #[Value.slice a11 [T, sig].length k11], wants_none rfl, Fg.run_call rfl rfl (by simp only [List.map_toArray, List.map_cons, List.map_nil, Act.eval, e11]) (Fg.run_enter Tryz.func14 (by kernel_rfl) (by kernel_rfl)), ?_⟩
        exact (join_any 2 k11 B11 [T, sig] a11 w rfl b11 (by simp) HL.out.1).mono fun _ _ ⟨_, he, hg, ho⟩ => ⟨_, he, hg, own_down ho h.base.size⟩
      refine ⟨Fg.vT rfl (by decide) fun ac w h => ?_, ?_⟩
      · obtain ⟨v12, e12, b12⟩ : ∃ v, ac.tmps.getD 12 undef = v ∧ w.ownsRow w1.heap.size 5 1 v [T, sig].flatten.length ([T, sig].flatten.map u8N) := ⟨_, rfl, h.dep 12 (by kernel_rfl)⟩
        exact ⟨_, w, wants_none rfl, Fg.run_assign rfl e12, gb_refl _ _, b12⟩
      refine ⟨Fg.vT rfl (by decide) fun ac w h => ?_, ?_⟩
      · refine ⟨Value.int .i64 0, w, wants_none rfl, ?_, gb_refl _ _, rfl⟩
        clear h
        simp only [execOp, Act.eval]
        go_simp
      trivial
    · intro aq wq hB hsz hdf hrest hslots hpt
      obtain ⟨u0, e0⟩ : ∃ u, aq.tmps.getD 0 undef = u := ⟨_, rfl⟩
      obtain ⟨v2, e2, b2⟩ : ∃ v, aq.tmps.getD 2 undef = v ∧ wq.ownsRow w1.heap.size 5 1 v [T, sig].flatten.length ([T, sig].flatten.map u8N) := ⟨_, rfl, hslots 2 (by kernel_rfl)⟩
      have e3 : aq.tmps.getD 3 undef = Value.int .i64 0 := hslots 3 (by kernel_rfl)
      obtain ⟨u4, e4⟩ : ∃ u, aq.tmps.getD 4 undef = u := ⟨_, rfl⟩
      obtain ⟨u5, e5⟩ : ∃ u, aq.tmps.getD 5 undef = u := ⟨_, rfl⟩
      obtain ⟨u6, e6⟩ : ∃ u, aq.tmps.getD 6 undef = u := ⟨_, rfl⟩
      obtain ⟨u7, e7⟩ : ∃ u, aq.tmps.getD 7 undef = u := ⟨_, rfl⟩
      obtain ⟨u8, e8⟩ : ∃ u, aq.tmps.getD 8 undef = u := ⟨_, rfl⟩
      obtain ⟨u9, e9⟩ : ∃ u, aq.tmps.getD 9 undef = u := ⟨_, rfl⟩
      obtain ⟨u10, e10⟩ : ∃ u, aq.tmps.getD 10 undef = u := ⟨_, rfl⟩
      obtain ⟨u11, e11⟩ : ∃ u, aq.tmps.getD 11 undef = u := ⟨_, rfl⟩
      obtain ⟨u12, e12⟩ : ∃ u, aq.tmps.getD 12 undef = u := ⟨_, rfl⟩
      obtain rfl := Fg.frame_is (a := aq) (vs := [u0, Value.pointer (some ⟨N, 0, none⟩), v2, Value.int .i64 0, u4, u5, u6, u7, u8, u9, u10, u11, u12]) hsz ⟨e0, hrest 1 (by kernel_rfl), e2, e3, e4, e5, e6, e7, e8, e9, e10, e11, e12, trivial⟩ hdf
      clear hsz hdf hrest hslots hpt e0 e2 e3 e4 e5 e6 e7 e8 e9 e10 e11 e12
      have HR := Lib.hid (HQ.out wq v2 (gb_trans HG.out.1 hB) (own_down b2 HG.out.1.size))
      clear b2 hB
      refine wpList_nil ?_
      go_wp2
      exact HR.out
theorem rput_any (r : R) (B : Nat) (w : World) (q : L) (h : RAt w B q r) : Calls Tryz.prog 197 #[q.v r] w (POut w (putO r) (errN (rightB r) 4)) := by
  have hb : ∀ i, (putO r).getD i 0 < 256 := by
    unfold putO
    cases hr : rightB r with
    | false => simp
    | true =>
      simp only [rightB, Bool.and_eq_true] at hr
      exact app_byte (text_small h hr.1).2 h.sig.byte
  refine (rput_own r B w q h).mono fun e w' ⟨v, he, hg, ho⟩ => ?_
  obtain ⟨a, c, rfl, _, hB, _⟩ := own_slice ho hb
  exact ⟨a, c, he, hg, hB⟩
end Rc
end Go.Proofs.YtlkiancedgaicaaGreat

/- mustBeAlike: or a panic. -/
namespace Go.Proofs.YtlkiancedgaicaaGreat
open Go.RowKit Ow Wi Ve Rc
namespace Sb
abbrev recs (l : List E) : List R := l.map (·.2)
theorem recs_get (l : List E) (i : Nat) (h : i < l.length) : (recs l)[i]? = some (l.getD i e0).2 := by
  rw [List.getElem?_map, List.getD_eq_getElem?_getD, List.getElem?_eq_getElem h]; rfl
theorem alike_get (l : List E) : alikeB (recs l) = true ↔ ∀ i, i < l.length → rightB (l.getD i e0).2 = true ∧ (l.getD i e0).2.key = (l.getD 0 e0).2.key := by
  rw [alike_iff]
  have hk : l ≠ [] → keyL (recs l) = (l.getD 0 e0).2.key := fun h => by
    cases l with
    | nil => exact absurd rfl h
    | cons a l => rfl
  constructor
  · intro h i hi
    have hm : (l.getD i e0).2 ∈ recs l := List.mem_map.2 ⟨_, getD_mem hi, rfl⟩
    have := h _ hm
    exact ⟨this.1, by rw [this.2]; exact hk (fun e => by rw [e] at hi; simp at hi)⟩
  · intro h r hr
    obtain ⟨x, hx, rfl⟩ := List.mem_map.1 hr
    obtain ⟨i, hi, rfl⟩ := List.getElem_of_mem hx
    have := h i hi
    rw [List.getD_eq_getElem?_getD, List.getElem?_eq_getElem hi] at this
    exact ⟨this.1, by rw [hk (fun e => by rw [e] at hi; simp at hi)]; exact this.2⟩
def AlikeOut (w : World) (l : List E) (e : Ending) (w' : World) : Prop := (alikeB (recs l) = true ∧ e = .returned (.tuple #[]) ∨ alikeB (recs l) = false ∧ Dies e) ∧ w.grownBy w' none
set_option maxHeartbeats 1000000 in
theorem alike_any (B n c : Nat) (a : Option Addr) (l : List E) (w : World) (hn : l.length = n) (h : RRow w B a l) (hc : n < 9223372036854775808) :
    Calls Tryz.prog 127 #[.slice a n c] w (AlikeOut w l) := by
  have H := Lib.hid h; clear h
  have HN := Lib.hid hn; clear hn
  obtain ⟨Q, hQ⟩ : ∃ Q, Q = AlikeOut w l := ⟨_, rfl⟩
  rw [← hQ]
  have HQ := Lib.hid hQ; clear hQ
  go_enter Tryz.func127, Tryz.ntmps127
  go_wp2
  go_loopw [6] (fun i wr => ∃ (k : Nat), k ≤ n ∧ i = .int .i64 k ∧ Hid (w.grownBy wr none ∧ ∀ j, j < k → rightB (l.getD j e0).2 = true ∧ (l.getD j e0).2.key = (l.getD 0 e0).2.key)) (fun i _ => n - (intOf i).toNat)
  case atStart => exact ⟨0, by omega, rfl, gb_refl _ _, fun j hj => absurd hj (by omega)⟩
  case round =>
    obtain ⟨k, hk, rfl, HI⟩ := hrel
    by_cases hlt : k < n
    · have hl : 0 < l.length := by rw [HN.out]; omega
      obtain ⟨pb, po, rfl, hpb, hcs⟩ := (H.out.stay HI.out.1).at hl
      have hx := hcs k (by rw [HN.out]; exact hlt)
      have hy := hcs 0 hl
      have hra := (H.out.stay HI.out.1).recs _ (getD_mem (l := l) (i := k) (by rw [HN.out]; exact hlt))
      have hra0 := (H.out.stay HI.out.1).recs _ (getD_mem (l := l) (i := 0) hl)
      have HK : Hid (∀ b1 b2, rightB (l.getD k e0).2 = b1 → decide ((l.getD k e0).2.key = (l.getD 0 e0).2.key) = b2 → (b1 = true → b2 = true → ∀ j, j < k + 1 → rightB (l.getD j e0).2 = true ∧ (l.getD j e0).2.key = (l.getD 0 e0).2.key) ∧ (b1 = false ∨ b2 = false → alikeB (recs l) = false)) := by
        refine fun b1 b2 h1 h2 => ⟨fun e1 e2 j hj => ?_, fun ho => ?_⟩
        · rcases (by omega : j < k ∨ j = k) with hj | rfl
          · exact HI.out.2 j hj
          · exact ⟨h1.trans e1, of_decide_eq_true (h2.trans e2)⟩
        · cases hal : alikeB (recs l) with
          | false => rfl
          | true =>
            obtain ⟨g1, g2⟩ := (alike_get l).1 hal k (by rw [HN.out]; exact hlt)
            rw [g1] at h1
            rw [decide_eq_true g2] at h2
            subst h1 h2
            rcases ho with h | h <;> cases h
      have hz := str_eq (l.getD k e0).1.s (l.getD 0 e0).1.s
      rw [hra.str, hra0.str] at hz
      generalize l.getD k e0 = x at *
      generalize l.getD 0 e0 = y at *
      have HR := Lib.hid (fun w' (hg : wr.grownBy w' none) => rright_any x.2 B w' x.1 (hra.stay hg))
      have HY := Lib.hid hy.c0
      have hy0 := hy.c0
      simp only [Nat.zero_mul, Nat.add_zero] at hy0
      obtain ⟨c0, c1, c2, c3, c4, c5, c6⟩ := hx
      clear hra hra0 hcs hy HY
      obtain ⟨q, r⟩ := x
      obtain ⟨q', r'⟩ := y
      simp only at hz c0 c1 c2 c3 c4 c5 c6 hy0 HK
      obtain ⟨s, a1, n1, c1', a2, n2, c2', a3, n3, c3'⟩ := q
      obtain ⟨key, cl, sq, cx, g, val, sig⟩ := r
      obtain ⟨s', a1', n1', d1', a2', n2', d2', a3', n3', d3'⟩ := q'
      simp only at hz c0 c1 c2 c3 c4 c5 c6 hy0 HK
      obtain ⟨b1, hb1⟩ : ∃ b, rightB ⟨key, cl, sq, cx, g, val, sig⟩ = b := ⟨_, rfl⟩
      obtain ⟨b2, hb2⟩ : ∃ b, decide (key = r'.key) = b := ⟨_, rfl⟩
      rw [hb2] at hz
      rw [hb1] at HR
      replace HK := Lib.hid (HK.out b1 b2 hb1 hb2)
      clear hb1 hb2
      replace HR : Hid (∀ w' (_ : wr.grownBy w' none), Calls Tryz.prog 179 #[vV s cl sq a1 n1 c1' g a2 n2 c2' a3 n3 c3'] w' fun e w'' => e = .returned (.bool b1) ∧ w'.grownBy w'' none) := HR
      rw [Nat.add_zero] at c0
      have HZ := Lib.hid hz; clear hz
      have hi : (k : Int) < (n : Int) := by omega
      obtain ⟨N, hN⟩ : ∃ N, N = wr.heap.size := ⟨_, rfl⟩
      have hgA := gb_alloc (gb_refl wr none) (.cells #[.string s, iV cl, iV sq, .slice a1 n1 c1', .bool g, .slice a2 n2 c2', .slice a3 n3 c3'] 66)
      have hB := blk_at wr [.string s, iV cl, iV sq, .slice a1 n1 c1', .bool g, .slice a2 n2 c2', .slice a3 n3 c3'] 66 hN.symm
      have hy1 : (wr.alloc (.cells #[.string s, iV cl, iV sq, .slice a1 n1 c1', .bool g, .slice a2 n2 c2', .slice a3 n3 c3'] 66)).cell? ⟨pb, po, none⟩ = some (.string s') := by
        rw [gb_cell hgA (block_lt_of_cell hy0) (by simp)]; exact hy0
      obtain ⟨W1, hW1⟩ : ∃ W1, W1 = wr.alloc (.cells #[.string s, iV cl, iV sq, .slice a1 n1 c1', .bool g, .slice a2 n2 c2', .slice a3 n3 c3'] 66) := ⟨_, rfl⟩
      have HG1 : Hid (w.grownBy W1 none ∧ wr.grownBy W1 none ∧ Blk W1 N 66 [.string s, iV cl, iV sq, .slice a1 n1 c1', .bool g, .slice a2 n2 c2', .slice a3 n3 c3'] ∧ W1.cell? ⟨pb, po, none⟩ = some (.string s')) := by rw [hW1]; exact ⟨gb_trans HI.out.1 hgA, hgA, hB, hy1⟩
      clear hgA hB hy1 hy0
      cases b1 with
      | false =>
        have HF := Lib.hid (HK.out.2 (Or.inl rfl))
        clear HK
        go_wp2_with fail
        rw [← hW1, ← hN]
        clear hW1 hN c0 c1 c2 c3 c4 c5 c6
        refine Fg.region_t [] [.any, .any, .any, .any, .any, .any, .any, .any, .any, .any, .val (vV s cl sq a1 n1 c1' g a2 n2 c2' a3 n3 c3'), .val (Value.bool false), .val (Value.bool false), .val undef, .val undef, .val undef, .val undef, .val undef, .val undef, .val undef, .val (Value.bool false)] W1 11 (gb_refl _ _) (by kernel_rfl) (by kernel_rfl) (by kernel_rfl) (by kernel_rfl) (by decide) (by kernel_rfl) ?_ ?_
        · refine ⟨Fg.vT rfl (by decide) fun ac w h => ?_, ?_⟩
          · have e3 : ac.tmps.getD 3 undef = Value.pointer (some ⟨N, 0, none⟩) := h.rest 3 (by kernel_rfl)
            have m0 := (HG1.out.2.2.1.grown h.base (by simp)).cell (i := 0) rfl
            have m1 := (HG1.out.2.2.1.grown h.base (by simp)).cell (i := 1) rfl
            have m2 := (HG1.out.2.2.1.grown h.base (by simp)).cell (i := 2) rfl
            have m3 := (HG1.out.2.2.1.grown h.base (by simp)).cell (i := 3) rfl
            have m4 := (HG1.out.2.2.1.grown h.base (by simp)).cell (i := 4) rfl
            have m5 := (HG1.out.2.2.1.grown h.base (by simp)).cell (i := 5) rfl
            have m6 := (HG1.out.2.2.1.grown h.base (by simp)).cell (i := 6) rfl
            refine ⟨vV s cl sq a1 n1 c1' g a2 n2 c2' a3 n3 c3', w, wants_none rfl, ?_, gb_refl _ _, rfl⟩
            clear h
            simp only [execOp, Act.eval, e3]
            go_simp
          refine ⟨Fg.cT rfl (by decide) fun ac w h => ?_, ?_⟩
          · have e10 : ac.tmps.getD 10 undef = vV s cl sq a1 n1 c1' g a2 n2 c2' a3 n3 c3' := h.dep 10 (by kernel_rfl)
            refine ⟨179, #[vV s cl sq a1 n1 c1' g a2 n2 c2' a3 n3 c3'], wants_none rfl, Fg.run_call rfl rfl (by simp only [List.map_toArray, List.map_cons, List.map_nil, Act.eval, e10]) (Fg.run_enter Tryz.func179 (by kernel_rfl) (by kernel_rfl)), ?_⟩
            exact (HR.out w (gb_trans HG1.out.2.1 h.base)).mono fun _ _ ⟨he, hg⟩ => ⟨_, he, hg, rfl⟩
          refine ⟨Fg.vT rfl (by decide) fun ac w h => ?_, ?_⟩
          · have e11 : ac.tmps.getD 11 undef = Value.bool false := h.dep 11 (by kernel_rfl)
            exact ⟨_, w, wants_none rfl, Fg.run_move rfl e11, gb_refl _ _, rfl⟩
          refine ⟨Fg.sT rfl (by decide) (fun _ => rfl) fun ac w h => ?_, ?_⟩
          · have e12 : ac.tmps.getD 12 undef = Value.bool false := h.dep 12 (by kernel_rfl)
            exact not_wants (d := 12) rfl rfl (by rw [h.size]; show 12 < 23; decide) e12 (by decide)
          refine ⟨Fg.sT rfl (by decide) (fun _ => rfl) fun ac w h => ?_, ?_⟩
          · have e12 : ac.tmps.getD 12 undef = Value.bool false := h.dep 12 (by kernel_rfl)
            exact not_wants (d := 12) rfl rfl (by rw [h.size]; show 12 < 23; decide) e12 (by decide)
          refine ⟨Fg.sT rfl (by decide) (fun _ => rfl) fun ac w h => ?_, ?_⟩
          · have e12 : ac.tmps.getD 12 undef = Value.bool false := h.dep 12 (by kernel_rfl)
            exact not_wants (d := 12) rfl rfl (by rw [h.size]; show 12 < 23; decide) e12 (by decide)
          refine ⟨Fg.sT rfl (by decide) (fun _ => rfl) fun ac w h => ?_, ?_⟩
          · have e12 : ac.tmps.getD 12 undef = Value.bool false := h.dep 12 (by kernel_rfl)
            exact not_wants (d := 12) rfl rfl (by rw [h.size]; show 12 < 23; decide) e12 (by decide)
          refine ⟨Fg.sT rfl (by decide) (fun _ => rfl) fun ac w h => ?_, ?_⟩
          · have e12 : ac.tmps.getD 12 undef = Value.bool false := h.dep 12 (by kernel_rfl)
            exact not_wants (d := 12) rfl rfl (by rw [h.size]; show 12 < 23; decide) e12 (by decide)
          refine ⟨Fg.sT rfl (by decide) (fun _ => rfl) fun ac w h => ?_, ?_⟩
          · have e12 : ac.tmps.getD 12 undef = Value.bool false := h.dep 12 (by kernel_rfl)
            exact not_wants (d := 12) rfl rfl (by rw [h.size]; show 12 < 23; decide) e12 (by decide)
          refine ⟨Fg.sT rfl (by decide) (fun _ => rfl) fun ac w h => ?_, ?_⟩
          · have e12 : ac.tmps.getD 12 undef = Value.bool false := h.dep 12 (by kernel_rfl)
            exact not_wants (d := 12) rfl rfl (by rw [h.size]; show 12 < 23; decide) e12 (by decide)
          refine ⟨Fg.vT rfl (by decide) fun ac w h => ?_, ?_⟩
          · have e12 : ac.tmps.getD 12 undef = Value.bool false := h.dep 12 (by kernel_rfl)
            refine ⟨Value.bool false, w, wants_none rfl, ?_, gb_refl _ _, rfl⟩
            clear h
            simp only [execOp, Act.eval, e12]
            go_simp
          trivial
        · intro aq wq hB hsz hdf hrest hslots hpt
          obtain ⟨u7, e7⟩ : ∃ u, aq.tmps.getD 7 undef = u := ⟨_, rfl⟩
          obtain ⟨u8, e8⟩ : ∃ u, aq.tmps.getD 8 undef = u := ⟨_, rfl⟩
          obtain ⟨u9, e9⟩ : ∃ u, aq.tmps.getD 9 undef = u := ⟨_, rfl⟩
          obtain ⟨u10, e10⟩ : ∃ u, aq.tmps.getD 10 undef = u := ⟨_, rfl⟩
          obtain ⟨u11, e11⟩ : ∃ u, aq.tmps.getD 11 undef = u := ⟨_, rfl⟩
          obtain ⟨u12, e12⟩ : ∃ u, aq.tmps.getD 12 undef = u := ⟨_, rfl⟩
          obtain ⟨u13, e13⟩ : ∃ u, aq.tmps.getD 13 undef = u := ⟨_, rfl⟩
          obtain ⟨u14, e14⟩ : ∃ u, aq.tmps.getD 14 undef = u := ⟨_, rfl⟩
          obtain ⟨u15, e15⟩ : ∃ u, aq.tmps.getD 15 undef = u := ⟨_, rfl⟩
          obtain ⟨u16, e16⟩ : ∃ u, aq.tmps.getD 16 undef = u := ⟨_, rfl⟩
          obtain ⟨u17, e17⟩ : ∃ u, aq.tmps.getD 17 undef = u := ⟨_, rfl⟩
          obtain ⟨u18, e18⟩ : ∃ u, aq.tmps.getD 18 undef = u := ⟨_, rfl⟩
          obtain ⟨u19, e19⟩ : ∃ u, aq.tmps.getD 19 undef = u := ⟨_, rfl⟩
          have e20 : aq.tmps.getD 20 undef = Value.bool false := hslots 20 (by kernel_rfl)
          obtain rfl := Fg.frame_is (a := aq) (vs := [Value.slice (some ⟨pb, po, none⟩) n c, undef, undef, Value.pointer (some ⟨N, 0, none⟩), Value.slice (some ⟨pb, po, none⟩) n c, Value.int .i64 n, Value.int .i64 k, u7, u8, u9, u10, u11, u12, u13, u14, u15, u16, u17, u18, u19, Value.bool false, u21, u22]) hsz ⟨hrest 0 (by kernel_rfl), hrest 1 (by kernel_rfl), hrest 2 (by kernel_rfl), hrest 3 (by kernel_rfl), hrest 4 (by kernel_rfl), hrest 5 (by kernel_rfl), hrest 6 (by kernel_rfl), e7, e8, e9, e10, e11, e12, e13, e14, e15, e16, e17, e18, e19, e20, hrest 21 (by kernel_rfl), hrest 22 (by kernel_rfl), trivial⟩ hdf
          clear hsz hdf hrest hslots hpt e7 e8 e9 e10 e11 e12 e13 e14 e15 e16 e17 e18 e19 e20
          have HGq := Lib.hid (gb_trans HG1.out.1 hB)
          clear hB
          go_wp2_with fail
          refine (smust_no wq).mono ?_
          rintro e w' ⟨⟨u, pv, rfl⟩, rfl⟩
          go_wp2
          refine ⟨rfl, ?_⟩
          rw [HQ.out]
          exact ⟨Or.inr ⟨HF.out, ⟨u, pv, rfl⟩⟩, HGq.out⟩
      | true =>
        cases b2 with
        | false =>
          have HF := Lib.hid (HK.out.2 (Or.inr rfl))
          clear HK
          go_wp2_with fail
          rw [← hW1, ← hN]
          clear hW1 hN c0 c1 c2 c3 c4 c5 c6
          refine Fg.region_t [] [.any, .any, .any, .any, .any, .any, .any, .any, .any, .any, .val (vV s cl sq a1 n1 c1' g a2 n2 c2' a3 n3 c3'), .val (Value.bool true), .val (Value.bool true), .val (Value.pointer (some ⟨N, 0, none⟩)), .val (Value.string s), .val (Value.slice (some ⟨pb, po, none⟩) n c), .val (Value.pointer (some ⟨pb, po, none⟩)), .val (Value.pointer (some ⟨pb, po, none⟩)), .val (Value.string s'), .val (Value.bool false), .val (Value.bool false)] W1 11 (gb_refl _ _) (by kernel_rfl) (by kernel_rfl) (by kernel_rfl) (by kernel_rfl) (by decide) (by kernel_rfl) ?_ ?_
          · refine ⟨Fg.vT rfl (by decide) fun ac w h => ?_, ?_⟩
            · have e3 : ac.tmps.getD 3 undef = Value.pointer (some ⟨N, 0, none⟩) := h.rest 3 (by kernel_rfl)
              have m0 := (HG1.out.2.2.1.grown h.base (by simp)).cell (i := 0) rfl
              have m1 := (HG1.out.2.2.1.grown h.base (by simp)).cell (i := 1) rfl
              have m2 := (HG1.out.2.2.1.grown h.base (by simp)).cell (i := 2) rfl
              have m3 := (HG1.out.2.2.1.grown h.base (by simp)).cell (i := 3) rfl
              have m4 := (HG1.out.2.2.1.grown h.base (by simp)).cell (i := 4) rfl
              have m5 := (HG1.out.2.2.1.grown h.base (by simp)).cell (i := 5) rfl
              have m6 := (HG1.out.2.2.1.grown h.base (by simp)).cell (i := 6) rfl
              refine ⟨vV s cl sq a1 n1 c1' g a2 n2 c2' a3 n3 c3', w, wants_none rfl, ?_, gb_refl _ _, rfl⟩
              clear h
              simp only [execOp, Act.eval, e3]
              go_simp
            refine ⟨Fg.cT rfl (by decide) fun ac w h => ?_, ?_⟩
            · have e10 : ac.tmps.getD 10 undef = vV s cl sq a1 n1 c1' g a2 n2 c2' a3 n3 c3' := h.dep 10 (by kernel_rfl)
              refine ⟨179, #[vV s cl sq a1 n1 c1' g a2 n2 c2' a3 n3 c3'], wants_none rfl, Fg.run_call rfl rfl (by simp only [List.map_toArray, List.map_cons, List.map_nil, Act.eval, e10]) (Fg.run_enter Tryz.func179 (by kernel_rfl) (by kernel_rfl)), ?_⟩
              exact (HR.out w (gb_trans HG1.out.2.1 h.base)).mono fun _ _ ⟨he, hg⟩ => ⟨_, he, hg, rfl⟩
            refine ⟨Fg.vT rfl (by decide) fun ac w h => ?_, ?_⟩
            · have e11 : ac.tmps.getD 11 undef = Value.bool true := h.dep 11 (by kernel_rfl)
              exact ⟨_, w, wants_none rfl, Fg.run_move rfl e11, gb_refl _ _, rfl⟩
            refine ⟨Fg.vT rfl (by decide) fun ac w h => ?_, ?_⟩
            · have e12 : ac.tmps.getD 12 undef = Value.bool true := h.dep 12 (by kernel_rfl)
              have e3 : ac.tmps.getD 3 undef = Value.pointer (some ⟨N, 0, none⟩) := h.rest 3 (by kernel_rfl)
              refine ⟨Value.pointer (some ⟨N, 0, none⟩), w, wants_some (d := 12) rfl rfl (by rw [h.size]; show 12 < 23; decide) e12, ?_, gb_refl _ _, rfl⟩
              clear h
              simp only [execOp, Act.eval, e3]
              go_simp
            refine ⟨Fg.vT rfl (by decide) fun ac w h => ?_, ?_⟩
            · have e12 : ac.tmps.getD 12 undef = Value.bool true := h.dep 12 (by kernel_rfl)
              have e13 : ac.tmps.getD 13 undef = Value.pointer (some ⟨N, 0, none⟩) := h.dep 13 (by kernel_rfl)
              have m0 := (HG1.out.2.2.1.grown h.base (by simp)).cell (i := 0) rfl
              refine ⟨Value.string s, w, wants_some (d := 12) rfl rfl (by rw [h.size]; show 12 < 23; decide) e12, ?_, gb_refl _ _, rfl⟩
              clear h
              simp only [execOp, Act.eval, e13]
              go_simp
            refine ⟨Fg.vT rfl (by decide) fun ac w h => ?_, ?_⟩
            · have e12 : ac.tmps.getD 12 undef = Value.bool true := h.dep 12 (by kernel_rfl)
              have e0 : ac.tmps.getD 0 undef = Value.slice (some ⟨pb, po, none⟩) n c := h.rest 0 (by kernel_rfl)
              exact ⟨_, w, wants_some (d := 12) rfl rfl (by rw [h.size]; show 12 < 23; decide) e12, Fg.run_move rfl e0, gb_refl _ _, rfl⟩
            refine ⟨Fg.vT rfl (by decide) fun ac w h => ?_, ?_⟩
            · have e12 : ac.tmps.getD 12 undef = Value.bool true := h.dep 12 (by kernel_rfl)
              have e15 : ac.tmps.getD 15 undef = Value.slice (some ⟨pb, po, none⟩) n c := h.dep 15 (by kernel_rfl)
              have i0 : (0 : Int) < (n : Int) := by omega
              have i1 : ¬ n = 0 := by omega
              refine ⟨.pointer (some ⟨pb, po, none⟩), w, wants_some (d := 12) rfl rfl (by rw [h.size]; show 12 < 23; decide) e12, ?_, gb_refl _ _, rfl⟩
              clear h
              simp only [execOp, Act.eval, e15]
              go_simp
            refine ⟨Fg.vT rfl (by decide) fun ac w h => ?_, ?_⟩
            · have e12 : ac.tmps.getD 12 undef = Value.bool true := h.dep 12 (by kernel_rfl)
              have e16 : ac.tmps.getD 16 undef = Value.pointer (some ⟨pb, po, none⟩) := h.dep 16 (by kernel_rfl)
              refine ⟨Value.pointer (some ⟨pb, po, none⟩), w, wants_some (d := 12) rfl rfl (by rw [h.size]; show 12 < 23; decide) e12, ?_, gb_refl _ _, rfl⟩
              clear h
              simp only [execOp, Act.eval, e16]
              go_simp
            refine ⟨Fg.vT rfl (by decide) fun ac w h => ?_, ?_⟩
            · have e12 : ac.tmps.getD 12 undef = Value.bool true := h.dep 12 (by kernel_rfl)
              have e17 : ac.tmps.getD 17 undef = Value.pointer (some ⟨pb, po, none⟩) := h.dep 17 (by kernel_rfl)
              have y0 : w.cell? ⟨pb, po, none⟩ = some (.string s') := by rw [gb_cell h.base (block_lt_of_cell HG1.out.2.2.2) (by simp)]; exact HG1.out.2.2.2
              refine ⟨Value.string s', w, wants_some (d := 12) rfl rfl (by rw [h.size]; show 12 < 23; decide) e12, ?_, gb_refl _ _, rfl⟩
              clear h
              simp only [execOp, Act.eval, e17]
              go_simp
            refine ⟨Fg.vT rfl (by decide) fun ac w h => ?_, ?_⟩
            · have e12 : ac.tmps.getD 12 undef = Value.bool true := h.dep 12 (by kernel_rfl)
              have e14 : ac.tmps.getD 14 undef = Value.string s := h.dep 14 (by kernel_rfl)
              have e18 : ac.tmps.getD 18 undef = Value.string s' := h.dep 18 (by kernel_rfl)
              have hz := HZ.out
              refine ⟨.bool false, w, wants_some (d := 12) rfl rfl (by rw [h.size]; show 12 < 23; decide) e12, ?_, gb_refl _ _, rfl⟩
              clear h
              simp only [execOp, Act.eval, e14, e18]
              go_simp
            refine ⟨Fg.vT rfl (by decide) fun ac w h => ?_, ?_⟩
            · have e12 : ac.tmps.getD 12 undef = Value.bool true := h.dep 12 (by kernel_rfl)
              have e19 : ac.tmps.getD 19 undef = Value.bool false := h.dep 19 (by kernel_rfl)
              refine ⟨Value.bool false, w, wants_none rfl, ?_, gb_refl _ _, rfl⟩
              clear h
              simp only [execOp, Act.eval, e12, e19]
              go_simp
            trivial
          · intro aq wq hB hsz hdf hrest hslots hpt
            obtain ⟨u7, e7⟩ : ∃ u, aq.tmps.getD 7 undef = u := ⟨_, rfl⟩
            obtain ⟨u8, e8⟩ : ∃ u, aq.tmps.getD 8 undef = u := ⟨_, rfl⟩
            obtain ⟨u9, e9⟩ : ∃ u, aq.tmps.getD 9 undef = u := ⟨_, rfl⟩
            obtain ⟨u10, e10⟩ : ∃ u, aq.tmps.getD 10 undef = u := ⟨_, rfl⟩
            obtain ⟨u11, e11⟩ : ∃ u, aq.tmps.getD 11 undef = u := ⟨_, rfl⟩
            obtain ⟨u12, e12⟩ : ∃ u, aq.tmps.getD 12 undef = u := ⟨_, rfl⟩
            obtain ⟨u13, e13⟩ : ∃ u, aq.tmps.getD 13 undef = u := ⟨_, rfl⟩
            obtain ⟨u14, e14⟩ : ∃ u, aq.tmps.getD 14 undef = u := ⟨_, rfl⟩
            obtain ⟨u15, e15⟩ : ∃ u, aq.tmps.getD 15 undef = u := ⟨_, rfl⟩
            obtain ⟨u16, e16⟩ : ∃ u, aq.tmps.getD 16 undef = u := ⟨_, rfl⟩
            obtain ⟨u17, e17⟩ : ∃ u, aq.tmps.getD 17 undef = u := ⟨_, rfl⟩
            obtain ⟨u18, e18⟩ : ∃ u, aq.tmps.getD 18 undef = u := ⟨_, rfl⟩
            obtain ⟨u19, e19⟩ : ∃ u, aq.tmps.getD 19 undef = u := ⟨_, rfl⟩
            have e20 : aq.tmps.getD 20 undef = Value.bool false := hslots 20 (by kernel_rfl)
            obtain rfl := Fg.frame_is (a := aq) (vs := [Value.slice (some ⟨pb, po, none⟩) n c, undef, undef, Value.pointer (some ⟨N, 0, none⟩), Value.slice (some ⟨pb, po, none⟩) n c, Value.int .i64 n, Value.int .i64 k, u7, u8, u9, u10, u11, u12, u13, u14, u15, u16, u17, u18, u19, Value.bool false, u21, u22]) hsz ⟨hrest 0 (by kernel_rfl), hrest 1 (by kernel_rfl), hrest 2 (by kernel_rfl), hrest 3 (by kernel_rfl), hrest 4 (by kernel_rfl), hrest 5 (by kernel_rfl), hrest 6 (by kernel_rfl), e7, e8, e9, e10, e11, e12, e13, e14, e15, e16, e17, e18, e19, e20, hrest 21 (by kernel_rfl), hrest 22 (by kernel_rfl), trivial⟩ hdf
            clear hsz hdf hrest hslots hpt e7 e8 e9 e10 e11 e12 e13 e14 e15 e16 e17 e18 e19 e20
            have HGq := Lib.hid (gb_trans HG1.out.1 hB)
            clear hB
            go_wp2_with fail
            refine (smust_no wq).mono ?_
            rintro e w' ⟨⟨u, pv, rfl⟩, rfl⟩
            go_wp2
            refine ⟨rfl, ?_⟩
            rw [HQ.out]
            exact ⟨Or.inr ⟨HF.out, ⟨u, pv, rfl⟩⟩, HGq.out⟩
        | true =>
          have HF := Lib.hid (HK.out.1 rfl rfl)
          clear HK
          go_wp2_with fail
          rw [← hW1, ← hN]
          clear hW1 hN c0 c1 c2 c3 c4 c5 c6
          refine Fg.region_t [] [.any, .any, .any, .any, .any, .any, .any, .any, .any, .any, .val (vV s cl sq a1 n1 c1' g a2 n2 c2' a3 n3 c3'), .val (Value.bool true), .val (Value.bool true), .val (Value.pointer (some ⟨N, 0, none⟩)), .val (Value.string s), .val (Value.slice (some ⟨pb, po, none⟩) n c), .val (Value.pointer (some ⟨pb, po, none⟩)), .val (Value.pointer (some ⟨pb, po, none⟩)), .val (Value.string s'), .val (Value.bool true), .val (Value.bool true)] W1 11 (gb_refl _ _) (by kernel_rfl) (by kernel_rfl) (by kernel_rfl) (by kernel_rfl) (by decide) (by kernel_rfl) ?_ ?_
          · refine ⟨Fg.vT rfl (by decide) fun ac w h => ?_, ?_⟩
            · have e3 : ac.tmps.getD 3 undef = Value.pointer (some ⟨N, 0, none⟩) := h.rest 3 (by kernel_rfl)
              have m0 := (HG1.out.2.2.1.grown h.base (by simp)).cell (i := 0) rfl
              have m1 := (HG1.out.2.2.1.grown h.base (by simp)).cell (i := 1) rfl
              have m2 := (HG1.out.2.2.1.grown h.base (by simp)).cell (i := 2) rfl
              have m3 := (HG1.out.2.2.1.grown h.base (by simp)).cell (i := 3) rfl
              have m4 := (HG1.out.2.2.1.grown h.base (by simp)).cell (i := 4) rfl
              have m5 := (HG1.out.2.2.1.grown h.base (by simp)).cell (i := 5) rfl
              have m6 := (HG1.out.2.2.1.grown h.base (by simp)).cell (i := 6) rfl
              refine ⟨vV s cl sq a1 n1 c1' g a2 n2 c2' a3 n3 c3', w, wants_none rfl, ?_, gb_refl _ _, rfl⟩
              clear h
              simp only [execOp, Act.eval, e3]
              go_simp
            refine ⟨Fg.cT rfl (by decide) fun ac w h => ?_, ?_⟩
            · have e10 : ac.tmps.getD 10 undef = vV s cl sq a1 n1 c1' g a2 n2 c2' a3 n3 c3' := h.dep 10 (by kernel_rfl)
              refine ⟨179, #[vV s cl sq a1 n1 c1' g a2 n2 c2' a3 n3 c3'], wants_none rfl, Fg.run_call rfl rfl (by simp only [List.map_toArray, List.map_cons, List.map_nil, Act.eval, e10]) (Fg.run_enter Tryz.func179 (by kernel_rfl) (by kernel_rfl)), ?_⟩
              exact (HR.out w (gb_trans HG1.out.2.1 h.base)).mono fun _ _ ⟨he, hg⟩ => ⟨_, he, hg, rfl⟩
            refine ⟨Fg.vT rfl (by decide) fun ac w h => ?_, ?_⟩
            · have e11 : ac.tmps.getD 11 undef = Value.bool true := h.dep 11 (by kernel_rfl)
              exact ⟨_, w, wants_none rfl, Fg.run_move rfl e11, gb_refl _ _, rfl⟩
            refine ⟨Fg.vT rfl (by decide) fun ac w h => ?_, ?_⟩
            · have e12 : ac.tmps.getD 12 undef = Value.bool true := h.dep 12 (by kernel_rfl)
              have e3 : ac.tmps.getD 3 undef = Value.pointer (some ⟨N, 0, none⟩) := h.rest 3 (by kernel_rfl)
              refine ⟨Value.pointer (some ⟨N, 0, none⟩), w, wants_some (d := 12) rfl rfl (by rw [h.size]; show 12 < 23; decide) e12, ?_, gb_refl _ _, rfl⟩
              clear h
              simp only [execOp, Act.eval, e3]
              go_simp
            refine ⟨Fg.vT rfl (by decide) fun ac w h => ?_, ?_⟩
            · have e12 : ac.tmps.getD 12 undef = Value.bool true := h.dep 12 (by kernel_rfl)
              have e13 : ac.tmps.getD 13 undef = Value.pointer (some ⟨N, 0, none⟩) := h.dep 13 (by kernel_rfl)
              have m0 := (HG1.out.2.2.1.grown h.base (by simp)).cell (i := 0) rfl
              refine ⟨Value.string s, w, wants_some (d := 12) rfl rfl (by rw [h.size]; show 12 < 23; decide) e12, ?_, gb_refl _ _, rfl⟩
              clear h
              simp only [execOp, Act.eval, e13]
              go_simp
            refine ⟨Fg.vT rfl (by decide) fun ac w h => ?_, ?_⟩
            · have e12 : ac.tmps.getD 12 undef = Value.bool true := h.dep 12 (by kernel_rfl)
              have e0 : ac.tmps.getD 0 undef = Value.slice (some ⟨pb, po, none⟩) n c := h.rest 0 (by kernel_rfl)
              exact ⟨_, w, wants_some (d := 12) rfl rfl (by rw [h.size]; show 12 < 23; decide) e12, Fg.run_move rfl e0, gb_refl _ _, rfl⟩
            refine ⟨Fg.vT rfl (by decide) fun ac w h => ?_, ?_⟩
            · have e12 : ac.tmps.getD 12 undef = Value.bool true := h.dep 12 (by kernel_rfl)
              have e15 : ac.tmps.getD 15 undef = Value.slice (some ⟨pb, po, none⟩) n c := h.dep 15 (by kernel_rfl)
              have i0 : (0 : Int) < (n : Int) := by omega
              have i1 : ¬ n = 0 := by omega
              refine ⟨.pointer (some ⟨pb, po, none⟩), w, wants_some (d := 12) rfl rfl (by rw [h.size]; show 12 < 23; decide) e12, ?_, gb_refl _ _, rfl⟩
              clear h
              simp only [execOp, Act.eval, e15]
              go_simp
            refine ⟨Fg.vT rfl (by decide) fun ac w h => ?_, ?_⟩
            · have e12 : ac.tmps.getD 12 undef = Value.bool true := h.dep 12 (by kernel_rfl)
              have e16 : ac.tmps.getD 16 undef = Value.pointer (some ⟨pb, po, none⟩) := h.dep 16 (by kernel_rfl)
              refine ⟨Value.pointer (some ⟨pb, po, none⟩), w, wants_some (d := 12) rfl rfl (by rw [h.size]; show 12 < 23; decide) e12, ?_, gb_refl _ _, rfl⟩
              clear h
              simp only [execOp, Act.eval, e16]
              go_simp
            refine ⟨Fg.vT rfl (by decide) fun ac w h => ?_, ?_⟩
            · have e12 : ac.tmps.getD 12 undef = Value.bool true := h.dep 12 (by kernel_rfl)
              have e17 : ac.tmps.getD 17 undef = Value.pointer (some ⟨pb, po, none⟩) := h.dep 17 (by kernel_rfl)
              have y0 : w.cell? ⟨pb, po, none⟩ = some (.string s') := by rw [gb_cell h.base (block_lt_of_cell HG1.out.2.2.2) (by simp)]; exact HG1.out.2.2.2
              refine ⟨Value.string s', w, wants_some (d := 12) rfl rfl (by rw [h.size]; show 12 < 23; decide) e12, ?_, gb_refl _ _, rfl⟩
              clear h
              simp only [execOp, Act.eval, e17]
              go_simp
            refine ⟨Fg.vT rfl (by decide) fun ac w h => ?_, ?_⟩
            · have e12 : ac.tmps.getD 12 undef = Value.bool true := h.dep 12 (by kernel_rfl)
              have e14 : ac.tmps.getD 14 undef = Value.string s := h.dep 14 (by kernel_rfl)
              have e18 : ac.tmps.getD 18 undef = Value.string s' := h.dep 18 (by kernel_rfl)
              have hz := HZ.out
              refine ⟨.bool true, w, wants_some (d := 12) rfl rfl (by rw [h.size]; show 12 < 23; decide) e12, ?_, gb_refl _ _, rfl⟩
              clear h
              simp only [execOp, Act.eval, e14, e18]
              go_simp
            refine ⟨Fg.vT rfl (by decide) fun ac w h => ?_, ?_⟩
            · have e12 : ac.tmps.getD 12 undef = Value.bool true := h.dep 12 (by kernel_rfl)
              have e19 : ac.tmps.getD 19 undef = Value.bool true := h.dep 19 (by kernel_rfl)
              refine ⟨Value.bool true, w, wants_none rfl, ?_, gb_refl _ _, rfl⟩
              clear h
              simp only [execOp, Act.eval, e12, e19]
              go_simp
            trivial
          · intro aq wq hB hsz hdf hrest hslots hpt
            obtain ⟨u7, e7⟩ : ∃ u, aq.tmps.getD 7 undef = u := ⟨_, rfl⟩
            obtain ⟨u8, e8⟩ : ∃ u, aq.tmps.getD 8 undef = u := ⟨_, rfl⟩
            obtain ⟨u9, e9⟩ : ∃ u, aq.tmps.getD 9 undef = u := ⟨_, rfl⟩
            obtain ⟨u10, e10⟩ : ∃ u, aq.tmps.getD 10 undef = u := ⟨_, rfl⟩
            obtain ⟨u11, e11⟩ : ∃ u, aq.tmps.getD 11 undef = u := ⟨_, rfl⟩
            obtain ⟨u12, e12⟩ : ∃ u, aq.tmps.getD 12 undef = u := ⟨_, rfl⟩
            obtain ⟨u13, e13⟩ : ∃ u, aq.tmps.getD 13 undef = u := ⟨_, rfl⟩
            obtain ⟨u14, e14⟩ : ∃ u, aq.tmps.getD 14 undef = u := ⟨_, rfl⟩
            obtain ⟨u15, e15⟩ : ∃ u, aq.tmps.getD 15 undef = u := ⟨_, rfl⟩
            obtain ⟨u16, e16⟩ : ∃ u, aq.tmps.getD 16 undef = u := ⟨_, rfl⟩
            obtain ⟨u17, e17⟩ : ∃ u, aq.tmps.getD 17 undef = u := ⟨_, rfl⟩
            obtain ⟨u18, e18⟩ : ∃ u, aq.tmps.getD 18 undef = u := ⟨_, rfl⟩
            obtain ⟨u19, e19⟩ : ∃ u, aq.tmps.getD 19 undef = u := ⟨_, rfl⟩
            have e20 : aq.tmps.getD 20 undef = Value.bool true := hslots 20 (by kernel_rfl)
            obtain rfl := Fg.frame_is (a := aq) (vs := [Value.slice (some ⟨pb, po, none⟩) n c, undef, undef, Value.pointer (some ⟨N, 0, none⟩), Value.slice (some ⟨pb, po, none⟩) n c, Value.int .i64 n, Value.int .i64 k, u7, u8, u9, u10, u11, u12, u13, u14, u15, u16, u17, u18, u19, Value.bool true, u21, u22]) hsz ⟨hrest 0 (by kernel_rfl), hrest 1 (by kernel_rfl), hrest 2 (by kernel_rfl), hrest 3 (by kernel_rfl), hrest 4 (by kernel_rfl), hrest 5 (by kernel_rfl), hrest 6 (by kernel_rfl), e7, e8, e9, e10, e11, e12, e13, e14, e15, e16, e17, e18, e19, e20, hrest 21 (by kernel_rfl), hrest 22 (by kernel_rfl), trivial⟩ hdf
            clear hsz hdf hrest hslots hpt e7 e8 e9 e10 e11 e12 e13 e14 e15 e16 e17 e18 e19 e20
            have HGq := Lib.hid (gb_trans HG1.out.1 hB)
            clear hB
            go_wp2_with fail
            refine (smust_yes wq).mono ?_
            rintro e w' ⟨rfl, rfl⟩
            go_wp2
            exact ⟨⟨k + 1, by omega, rfl, HGq.out, HF.out⟩, by show n - ((k : Int) + 1).toNat < n - (k : Int).toNat; omega⟩
    · obtain rfl : k = n := by omega
      clear hlt
      go_wp2
      go_end0
      rw [HQ.out]
      exact ⟨Or.inl ⟨(alike_get l).2 (by rw [HN.out]; exact HI.out.2), rfl⟩, HI.out.1⟩
end Sb
end Go.Proofs.YtlkiancedgaicaaGreat

/- slices.Insert of one dot, into a row of one's own. -/
namespace Go.Proofs.YtlkiancedgaicaaGreat
open Go.RowKit Ve
namespace Ve
abbrev OwnD (w : World) (base : Nat) (v : Value) (l : List D) : Prop := w.ownsRow base 127 2 v l.length (dotsC l)
def InsOut (base : Nat) (w : World) (v : Value) (l : List D) (e : Ending) (w' : World) : Prop := ∃ v', e = .returned v' ∧ OwnD w' base v' l ∧ w.grownBy w' v.ownBlock
theorem nx_end (l : List D) (d : D) : nx l l.length d = l ++ [d] := by simp [nx]
set_option maxHeartbeats 400000 in
theorem insert_end (base vb : Nat) (v : Value) (l : List D) (x y : Int) (w : World) (hn : l.length ≤ 8) (hown : OwnD w base v l) (hbase : base ≤ w.heap.size) (hv : Blk w vb 127 [iV x, iV y]) :
    Calls Tryz.prog 234 #[v, .int .i64 (l.length : Nat), .slice (some ⟨vb, 0, none⟩) 1 1] w (InsOut base w v (l ++ [(x, y)])) := by
  obtain ⟨i, hi, hz, hs, hb⟩ := info_dot
  obtain ⟨v', w', hr, ho, hg, _⟩ := run_append_own (P := Tryz.prog) w base 284 284 127 i (.agg #[iV 0, iV 0]) 2 16 Tryz.underlying284 hi hz hs hb rfl (by decide) v l.length (dotsC l) hown ⟨vb, 0, none⟩ 1 1 [iV x, iV y] rfl
    (fun j u hu => by rw [Addr.add_lit, Nat.zero_add]; exact hv.cell hu) (fun u hu => by simp at hu; rcases hu with rfl | rfl <;> rfl) (by unfold maxLen; omega) (by omega) hbase
  obtain ⟨a, c, rfl, _, hnc, _⟩ := own_dots hown
  have hr2 := append_args w 284 64 284 _ Tryz.underlying284 Tryz.underlying64 a l.length c (.slice (some ⟨vb, 0, none⟩) 1 1)
  rw [hr] at hr2
  have HO : Hid (InsOut base w (.slice a l.length c) (l ++ [(x, y)]) (.returned v') w') := ⟨v', rfl, by unfold OwnD; rw [dotsC_app, List.length_append]; exact ho, hg⟩
  have HC := Lib.hid hnc
  clear hr ho hg hown hv hi hz hs hb hnc
  generalize InsOut base w (.slice a l.length c) (l ++ [(x, y)]) = Q at HO ⊢
  generalize l.length = n at hr2 HC hn ⊢
  have hnc := HC.out
  go_enter Tryz.func234, Tryz.ntmps234
  go_wp2_with (at_builtin; refine Lib.wpList_append_run _ rfl _ _ _ _ rfl _ _ rfl rfl _ _ hr2 ?_)
  exact HO.out
theorem shape_blk {w : World} {B : Nat} {T : TypeId} {L : List Value} (h : Blk w B T L) : w.shape? B = some (T, L.length) := by
  unfold Blk at h; simp [World.shape?, h]
set_option maxHeartbeats 1000000 in
theorem insert_shift (base g vb k c : Nat) (l : List D) (x y : Int) (w : World) (hn : l.length ≤ 8) (hk : k < l.length) (hroom : l.length + 1 ≤ c) (hown : OwnD w base (.slice (some ⟨g, 0, none⟩) l.length c) l) (hv : Blk w vb 127 [iV x, iV y]) (hne : vb ≠ g) :
    Calls Tryz.prog 234 #[.slice (some ⟨g, 0, none⟩) l.length c, .int .i64 k, .slice (some ⟨vb, 0, none⟩) 1 1] w (InsOut base w (.slice (some ⟨g, 0, none⟩) l.length c) (nx l k (x, y))) := by
  obtain ⟨g', c', cur, e1, hb, hg, hnc, hcm, hcs, htake⟩ := hown.2.resolve_left (fun h => by cases h.1)
  simp only [Value.slice.injEq, Option.some.injEq, Addr.mk.injEq, true_and, and_true] at e1
  obtain ⟨rfl, rfl⟩ := e1
  obtain ⟨L, rfl⟩ : ∃ L : List Value, cur = L.toArray := ⟨cur.toList, by simp⟩
  have hB : Blk w g 127 L := hg
  simp only [List.size_toArray] at hcs htake
  obtain ⟨n, hln⟩ : ∃ n, n = l.length := ⟨_, rfl⟩
  rw [← hln] at hn hk hroom hnc htake ⊢
  unfold maxLen at hcm
  -- the two copies
  have hd1 : (dotsC (l.drop k)).length = (n - k) * 2 := by rw [dotsC_len, List.length_drop, hln]
  have hLk : ∀ j u, (dotsC (l.drop k))[j]? = some u → w.cell? ⟨g, k * 2 + j, none⟩ = some u := fun j u hu => by
    refine hB.cell ?_
    have hj : j < (n - k) * 2 := by rw [← hd1]; exact (List.getElem?_eq_some_iff.1 hu).1
    rw [← dotsC_drop, ← htake, List.getElem?_drop, List.getElem?_take, if_pos (by omega)] at hu
    exact hu
  have hc1 : ∀ ty dc sc, (Builtin.copy_ #[284, 284] ty #[.slice (some ⟨g, (k + 1) * 2, none⟩) (n - k) dc, .slice (some ⟨g, k * 2, none⟩) (n + 1 - k) sc]).run Tryz.prog w.drew = .ok (goInt (n - k : Nat)) (w.drew.setCells g ((k + 1) * 2) (dotsC (l.drop k))) := fun ty dc sc =>
    run_copy2 w.drew _ _ ty Tryz.underlying284 g _ _ dc ⟨g, k * 2, none⟩ _ sc (n - k) _ (by simp only [Nat.min_def]; split <;> omega) hd1
      (fun j u hu => by rw [Addr.add_lit]; exact hLk j u hu) (fun j hj => by rw [hB.drew.cell (List.getElem?_eq_getElem (by omega))]; rfl) (fun j hj => hB.drew.free _) (dotsC_cell _)
  obtain ⟨W1, hW1⟩ : ∃ W1, W1 = w.drew.setCells g ((k + 1) * 2) (dotsC (l.drop k)) := ⟨_, rfl⟩
  rw [← hW1] at hc1
  have hB1 : Blk W1 g 127 (over L ((k + 1) * 2) (dotsC (l.drop k))) := by rw [hW1]; exact hB.drew.setCells _
  have hv1 : Blk W1 vb 127 [iV x, iV y] := by rw [hW1]; exact hv.drew.setCells_other _ (fun e => hne e.symm)
  have hg1 : w.grownBy W1 (some g) := by rw [hW1]; exact gb_setCells (gb_drew (gb_refl _ _)) _
  have hc2 : ∀ (W : World), (∀ x, W.cell? x = W1.cell? x) → (∀ x, W.frozen? x = W1.frozen? x) → ∀ ty dc, (Builtin.copy_ #[284, 64] ty #[.slice (some ⟨g, k * 2, none⟩) (n + 1 - k) dc, .slice (some ⟨vb, 0, none⟩) 1 1]).run Tryz.prog W = .ok (goInt (1 : Nat)) (W.setCells g (k * 2) [iV x, iV y]) := fun W hWc hWf ty dc =>
    run_copy2 W _ _ ty Tryz.underlying284 g _ _ dc ⟨vb, 0, none⟩ _ 1 1 _ (by simp only [Nat.min_def]; split <;> omega) rfl
      (fun j u hu => by rw [Addr.add_lit, Nat.zero_add, hWc]; exact hv1.cell hu) (fun j hj => by rw [hWc, hB1.cell (List.getElem?_eq_getElem (by rw [over_length]; simp at hj; omega))]; rfl) (fun j hj => by rw [hWf]; exact hB1.free _) (fun u hu => by simp at hu; rcases hu with rfl | rfl <;> rfl)
  have hov : ∀ lb cb, (callFunc 241 #[.slice (some ⟨vb, 0, none⟩) 1 1, .slice (some ⟨g, (k + 1) * 2, none⟩) lb cb]).run Tryz.prog w = .ok (.value (.bool false)) w := fun lb cb => by
    rw [run_callFunc_extern Tryz.func241 (by kernel_rfl) (by kernel_rfl) (by kernel_rfl) (e := Extern.SlicesOverlaps.overlaps #[64, 64] #[4]) (by kernel_rfl),
      Lib.run_overlaps_apart w 64 4 127 Tryz.underlying64 2 Tryz.sizeOf127 ⟨vb, 0, none⟩ ⟨g, (k + 1) * 2, none⟩ 1 1 lb cb hne 127 127 2 L.length (shape_blk hv) (shape_blk hB) (by omega) (hv.free _) (hv.free _)]
    rfl
  have HO : Hid (InsOut base w (.slice (some ⟨g, 0, none⟩) n c) (nx l k (x, y)) (.returned (.slice (some ⟨g, 0, none⟩) (n + 1) c)) (W1.setCells g (k * 2) [iV x, iV y])) := by
    refine ⟨_, rfl, ?_, gb_setCells hg1 _⟩
    have hB2 := hB1.setCells (cs := [iV x, iV y]) (k * 2)
    have hnl : (nx l k (x, y)).length = n + 1 := by simp [nx]; omega
    refine ⟨by rw [dotsC_len], Or.inr ⟨g, c, (over (over L ((k + 1) * 2) (dotsC (l.drop k))) (k * 2) [iV x, iV y]).toArray, by rw [hnl], hb, hB2, by omega, by unfold maxLen; omega, by simp [over_length, hcs], ?_⟩⟩
    rw [hnl]
    show List.take _ (over (over L ((k + 1) * 2) (dotsC (l.drop k))) (k * 2) [iV x, iV y]) = _
    have e1 : over L ((k + 1) * 2) (dotsC (l.drop k)) = L.take ((k + 1) * 2) ++ dotsC (l.drop k) ++ L.drop ((n + 1) * 2) := by
      rw [over_eq _ _ _ (by rw [hd1]; omega), hd1, show (k + 1) * 2 + (n - k) * 2 = (n + 1) * 2 by omega]
    have e2 : ((L.take ((k + 1) * 2) ++ dotsC (l.drop k) ++ L.drop ((n + 1) * 2)).take (k * 2)) = dotsC (l.take k) := by
      rw [List.append_assoc, List.take_append_of_le_length (by rw [List.length_take]; omega), List.take_take, Nat.min_eq_left (by omega), ← dotsC_take, ← htake, List.take_take, Nat.min_eq_left (by omega)]
    have e3 : ((L.take ((k + 1) * 2) ++ dotsC (l.drop k) ++ L.drop ((n + 1) * 2)).drop (k * 2 + 2)) = dotsC (l.drop k) ++ L.drop ((n + 1) * 2) := by
      rw [List.append_assoc, show k * 2 + 2 = (L.take ((k + 1) * 2)).length by rw [List.length_take]; omega, List.drop_left]
    have e4 : dotsC (nx l k (x, y)) = dotsC (l.take k) ++ [iV x, iV y] ++ dotsC (l.drop k) := by
      unfold nx; rw [show (x, y) :: l.drop k = [(x, y)] ++ l.drop k from rfl, dotsC_app, dotsC_app, dotsC_one, List.append_assoc]
    rw [e1, over_eq _ _ _ (by rw [← e1, over_length]; simp; omega)]
    show List.take _ (_ ++ [iV x, iV y] ++ List.drop (k * 2 + 2) _) = _
    rw [e2, e3, ← List.append_assoc, ← e4, show (n + 1) * 2 = (dotsC (nx l k (x, y))).length by rw [dotsC_len, hnl], List.take_left]
  generalize InsOut base w (.slice (some ⟨g, 0, none⟩) n c) (nx l k (x, y)) = Q at HO ⊢
  have hw1 : IntKind.i64.wrap ((k : Int) + 1) = (k : Int) + 1 := by rw [IntKind.wrap_i64]; omega
  have hb1 : (0 : Int) ≤ (k : Int) + 1 := by omega
  have htn : ((k : Int) + 1).toNat = k + 1 := by omega
  have hb2 : ¬ (c = k + 1) := by omega
  have hb3 : (k : Int) ≤ (n : Int) + 1 := by omega
  have hb4 : ¬ (c = k) := by omega
  have hkn : ¬ ((k : Int) = (n : Int)) := by omega
  have hin : k ≤ n := by omega
  have hin2 : (k : Int) ≤ (n : Int) := by omega
  have mixed : Tryz.prog.follows .mixedOrders = true := by kernel_rfl
  clear hB hg hv hd1 hLk hB1 hv1 hg1 htake hcs
  have HL := Lib.hid hln; clear hln
  have HW := Lib.hid hW1; clear hW1
  go_enter Tryz.func234, Tryz.ntmps234
  go_wp2_with (simp only [hov])
  go_region_law_o (refine step_copy_runI rfl _ _ 284 284 rfl _ _ (by simp [Act.eval, Act.put]) (by simp [Act.eval, Act.put]) (hc1 _ _ _) ?_)
  go_wp2_with (at_builtin; refine wpList_copy_runI _ rfl _ _ 284 64 rfl _ _ rfl rfl (hc2 _ (fun _ => rfl) (fun _ => rfl) _ _) ?_)
  exact HO.out
set_option maxHeartbeats 1000000 in
set_option maxRecDepth 100000 in
theorem insert_grow (base g vb k c : Nat) (l : List D) (x y : Int) (w : World) (hn : l.length ≤ 8) (hk : k < l.length) (hroom : c < l.length + 1) (hown : OwnD w base (.slice (some ⟨g, 0, none⟩) l.length c) l) (hbase : base ≤ w.heap.size) (hv : Blk w vb 127 [iV x, iV y]) :
    Calls Tryz.prog 234 #[.slice (some ⟨g, 0, none⟩) l.length c, .int .i64 k, .slice (some ⟨vb, 0, none⟩) 1 1] w (InsOut base w (.slice (some ⟨g, 0, none⟩) l.length c) (nx l k (x, y))) := by
  obtain ⟨g', c', cur, e1, hb, hg, hnc, hcm, hcs, htake⟩ := hown.2.resolve_left (fun h => by cases h.1)
  simp only [Value.slice.injEq, Option.some.injEq, Addr.mk.injEq, true_and, and_true] at e1
  obtain ⟨rfl, rfl⟩ := e1
  obtain ⟨L, rfl⟩ : ∃ L : List Value, cur = L.toArray := ⟨cur.toList, by simp⟩
  have hB : Blk w g 127 L := hg
  simp only [List.size_toArray] at hcs htake
  obtain ⟨n, hln⟩ : ∃ n, n = l.length := ⟨_, rfl⟩
  rw [← hln] at hn hk hroom hnc htake ⊢
  unfold maxLen at hcm
  obtain rfl : c = n := by omega
  obtain ⟨i, hi, hz, hs, hby⟩ := info_dot
  have hgw := hB.lt
  have hvw := hv.lt
  have hd1 : (dotsC (l.drop k)).length = (c - k) * 2 := by rw [dotsC_len, List.length_drop, hln]
  have hlt : (l.take k).length = k := by rw [List.length_take]; omega
  have htk : L.take (k * 2) = dotsC (l.take k) := by rw [← dotsC_take, ← htake, List.take_take, Nat.min_eq_left (by omega)]
  have hold : (Builtin.firstCells i.size k (.slice (some ⟨g, 0, none⟩) k c)).run Tryz.prog w.drew = .ok (dotsC (l.take k)).toArray w.drew := by
    rw [hs]
    exact run_firstCells_some w.drew 2 k ⟨g, 0, none⟩ k c _ (by rw [dotsC_len, hlt]) (fun j u hj => by
      rw [Addr.add_lit, Nat.zero_add]
      refine hB.drew.cell ?_
      rw [← htk, List.getElem?_take] at hj
      split at hj
      · exact hj
      · cases hj)
  obtain ⟨G, hG⟩ : ∃ G, G = grownCap w (c + 1) c 127 := ⟨_, rfl⟩
  obtain ⟨R, hR⟩ : ∃ R : List Value, R = ((dotsC (l.take k)).toArray ++ Builtin.zeroCells (Value.agg #[iV 0, iV 0]).cells (c + 1 - k) ++ Builtin.zeroCells (Value.agg #[iV 0, iV 0]).cells (G - (c + 1))).toList := ⟨_, rfl⟩
  have hGn : c + 1 ≤ G := by rw [hG]; exact grownCap_ge w _ _ _
  have hG63 : G ≤ 9223372036854775807 := by
    have := grownCap_le_maxLen w (c + 1) c 127 (by unfold maxLen; omega)
    rw [← hG] at this
    unfold maxLen at this
    omega
  have hRl : R.length = G * 2 := by
    rw [hR]
    simp [Builtin.zeroCells, Value.cells, dotsC_len]
    omega
  have hRt : R.take (k * 2) = dotsC (l.take k) := by
    rw [hR, Array.toList_append, Array.toList_append, List.append_assoc]
    show List.take _ (dotsC (l.take k) ++ _) = _
    rw [show k * 2 = (dotsC (l.take k)).length by rw [dotsC_len, hlt], List.take_left]
  have hrz : ∀ ty, (Builtin.append_ #[284, 3] ty #[.slice (some ⟨g, 0, none⟩) k c, .int .i64 ((c : Int) + 1 - (k : Int))]).run Tryz.prog w =
      .ok (.slice (some ⟨w.heap.size, 0, none⟩) (c + 1) G) (w.drew.alloc (.cells R.toArray 127)) := fun ty => by
    have h := Lib.run_append_grow_zeros (P := Tryz.prog) w 284 3 ty 127 i _ .i64 .i64 Tryz.underlying284 Tryz.underlying3 hi hz (some ⟨g, 0, none⟩) k c _ hold (c + 1 - k) (by omega) (by omega) (by omega) (by omega) (by rw [hby]; omega) (by have := nextslicecap_le (need := k + (c + 1 - k)) (old := c) (by omega); rw [hby]; omega)
    rw [show k + (c + 1 - k) = c + 1 by omega, ← hG] at h
    rw [show (c : Int) + 1 - (k : Int) = ((c + 1 - k : Nat) : Int) by omega, hR, Array.toArray_toList]
    exact h
  have hGrow : Hid (w.grownBy (w.drew.alloc (.cells R.toArray 127)) none) := gb_alloc (gb_drew (gb_refl _ _)) _
  have hB1' : Blk (w.drew.alloc (.cells R.toArray 127)) w.heap.size 127 R := Blk.new w.drew R _
  obtain ⟨W1, hW1⟩ : ∃ W1, W1 = w.drew.alloc (.cells R.toArray 127) := ⟨_, rfl⟩
  rw [← hW1] at hrz hGrow hB1'
  generalize hN : w.heap.size = N at *
  have hv1 : Blk W1 vb 127 [iV x, iV y] := hv.grown hGrow.out (by simp)
  have hg1 : Blk W1 g 127 L := hB.grown hGrow.out (by simp)
  have hc1 : ∀ (W : World), (∀ x, W.cell? x = W1.cell? x) → (∀ x, W.frozen? x = W1.frozen? x) → ∀ ty dc, (Builtin.copy_ #[284, 64] ty #[.slice (some ⟨N, k * 2, none⟩) (c + 1 - k) dc, .slice (some ⟨vb, 0, none⟩) 1 1]).run Tryz.prog W = .ok (goInt (1 : Nat)) (W.setCells N (k * 2) [iV x, iV y]) := fun W hWc hWf ty dc =>
    run_copy2 W _ _ ty Tryz.underlying284 N _ _ dc ⟨vb, 0, none⟩ _ 1 1 _ (by simp only [Nat.min_def]; split <;> omega) rfl
      (fun j u hu => by rw [Addr.add_lit, Nat.zero_add, hWc]; exact hv1.cell hu) (fun j hj => by rw [hWc, hB1'.cell (List.getElem?_eq_getElem (by simp at hj; omega))]; rfl) (fun j hj => by rw [hWf]; exact hB1'.free _) (fun u hu => by simp at hu; rcases hu with rfl | rfl <;> rfl)
  have hB2 := hB1'.setCells (cs := [iV x, iV y]) (k * 2)
  have hg2 : Blk (W1.setCells N (k * 2) [iV x, iV y]) g 127 L := hg1.setCells_other _ (by omega)
  have hc2 : ∀ (W : World), (∀ z, W.cell? z = (W1.setCells N (k * 2) [iV x, iV y]).cell? z) → (∀ z, W.frozen? z = (W1.setCells N (k * 2) [iV x, iV y]).frozen? z) → ∀ ty dc sc, (Builtin.copy_ #[284, 284] ty #[.slice (some ⟨N, (k + 1) * 2, none⟩) (c - k) dc, .slice (some ⟨g, k * 2, none⟩) (c - k) sc]).run Tryz.prog W = .ok (goInt (c - k : Nat)) (W.setCells N ((k + 1) * 2) (dotsC (l.drop k))) := fun W hWc hWf ty dc sc =>
    run_copy2 W _ _ ty Tryz.underlying284 N _ _ dc ⟨g, k * 2, none⟩ _ sc (c - k) _ (by simp only [Nat.min_def]; split <;> omega) hd1
      (fun j u hu => by
        rw [Addr.add_lit, hWc]
        refine hg2.cell ?_
        have hj : j < (c - k) * 2 := by rw [← hd1]; exact (List.getElem?_eq_some_iff.1 hu).1
        rw [← dotsC_drop, ← htake, List.getElem?_drop, List.getElem?_take, if_pos (by omega)] at hu
        exact hu) (fun j hj => by rw [hWc, hB2.cell (List.getElem?_eq_getElem (by rw [over_length]; omega))]; rfl) (fun j hj => by rw [hWf]; exact hB2.free _) (dotsC_cell _)
  have HO : Hid (InsOut base w (.slice (some ⟨g, 0, none⟩) c c) (nx l k (x, y)) (.returned (.slice (some ⟨N, 0, none⟩) (c + 1) G)) ((W1.setCells N (k * 2) [iV x, iV y]).drew.setCells N ((k + 1) * 2) (dotsC (l.drop k)))) := by
    refine ⟨_, rfl, ?_, gb_setCells_new (gb_drew (gb_setCells_new (gb_row hGrow.out _) (Nat.le_of_eq hN) _)) (Nat.le_of_eq hN) _⟩
    have hB3 := hB2.drew.setCells (cs := dotsC (l.drop k)) ((k + 1) * 2)
    have hnl : (nx l k (x, y)).length = c + 1 := by simp [nx]; omega
    refine ⟨by rw [dotsC_len], Or.inr ⟨N, G, (over (over R (k * 2) [iV x, iV y]) ((k + 1) * 2) (dotsC (l.drop k))).toArray, by rw [hnl], hbase, hB3, by omega, by unfold maxLen; omega, by simp [over_length, hRl], ?_⟩⟩
    rw [hnl]
    show List.take _ (over (over R (k * 2) [iV x, iV y]) ((k + 1) * 2) (dotsC (l.drop k))) = _
    have e1 : over R (k * 2) [iV x, iV y] = dotsC (l.take k) ++ [iV x, iV y] ++ R.drop (k * 2 + 2) := by
      rw [over_eq _ _ _ (by simp; omega), hRt]; rfl
    have e0 : (dotsC (l.take k) ++ [iV x, iV y]).length = (k + 1) * 2 := by rw [List.length_append, dotsC_len, hlt]; simp; omega
    have e4 : dotsC (nx l k (x, y)) = dotsC (l.take k) ++ [iV x, iV y] ++ dotsC (l.drop k) := by
      unfold nx; rw [show (x, y) :: l.drop k = [(x, y)] ++ l.drop k from rfl, dotsC_app, dotsC_app, dotsC_one, List.append_assoc]
    rw [over_eq _ _ _ (by rw [over_length, hd1]; omega), e1, ← e0, List.take_left, ← e4, show (c + 1) * 2 = (dotsC (nx l k (x, y))).length by rw [dotsC_len, hnl], List.take_left]
  generalize InsOut base w (.slice (some ⟨g, 0, none⟩) c c) (nx l k (x, y)) = Q at HO ⊢
  have hw1 : IntKind.i64.wrap ((k : Int) + 1) = (k : Int) + 1 := by rw [IntKind.wrap_i64]; omega
  have hb1 : (0 : Int) ≤ (k : Int) + 1 := by omega
  have htn : ((k : Int) + 1).toNat = k + 1 := by omega
  have hb2 : ¬ (G = k + 1) := by omega
  have hb3 : (k : Int) ≤ (c : Int) + 1 := by omega
  have hb4 : ¬ (G = k) := by omega
  have hb5 : ¬ (c = k) := by omega
  have hkn : ¬ ((k : Int) = (c : Int)) := by omega
  have hin : k ≤ c := by omega
  have hin2 : (k : Int) ≤ (c : Int) := by omega
  have mixed : Tryz.prog.follows .mixedOrders = true := by kernel_rfl
  have hF3 : ∀ z, ((W1.setCells N (k * 2) [iV x, iV y]).drew).cell? z = (W1.setCells N (k * 2) [iV x, iV y]).cell? z := fun z => rfl
  have hF4 : ∀ z, ((W1.setCells N (k * 2) [iV x, iV y]).drew).frozen? z = (W1.setCells N (k * 2) [iV x, iV y]).frozen? z := fun z => rfl
  clear hB hg hv hd1 hold hv1 hg1 htake hcs hGrow hB1' hB2 hg2 hRl hRt htk hlt hown hi hz hs hby hln hR hW1 hG hN
  go_enter Tryz.func234, Tryz.ntmps234
  go_wp2_with (first
    | (at_builtin; refine Lib.wpList_append_run _ rfl _ _ _ _ rfl _ _ rfl rfl _ _ (hrz _) ?_)
    | (at_builtin; refine wpList_copy_runI _ rfl _ _ 284 64 rfl _ _ rfl rfl (hc1 _ (fun _ => rfl) (fun _ => rfl) _ _) ?_))
  go_region_law_o (refine step_copy_runI rfl _ _ 284 284 rfl (.slice (some ⟨N, (k + 1) * 2, none⟩) (c - k) (G - (k + 1))) (.slice (some ⟨g, k * 2, none⟩) (c - k) (c - k)) (by simp [Act.eval, Act.put]) (by simp [Act.eval, Act.put]) (hc2 _ hF3 hF4 3 (G - (k + 1)) (c - k)) ?_)
  go_wp2
  exact HO.out
theorem nx_len (l : List D) (k : Nat) (d : D) (hk : k ≤ l.length) : (nx l k d).length = l.length + 1 := by simp [nx]; omega
theorem insert_any (base vb k : Nat) (v : Value) (l : List D) (x y : Int) (w : World) (hn : l.length ≤ 8) (hk : k ≤ l.length) (hown : OwnD w base v l) (hbase : base ≤ w.heap.size) (hv : Blk w vb 127 [iV x, iV y]) (hne : v.ownBlock ≠ some vb) :
    Calls Tryz.prog 234 #[v, .int .i64 k, .slice (some ⟨vb, 0, none⟩) 1 1] w (InsOut base w v (nx l k (x, y))) := by
  by_cases hkn : k = l.length
  · subst hkn
    rw [nx_end]
    exact insert_end base vb v l x y w hn hown hbase hv
  · rcases hown.2 with ⟨rfl, h0⟩ | ⟨g, c, cur, rfl, _⟩
    · omega
    · by_cases hroom : l.length + 1 ≤ c
      · exact insert_shift base g vb k c l x y w hn (by omega) hroom hown hv (fun e => hne (by rw [e]; rfl))
      · exact insert_grow base g vb k c l x y w hn (by omega) (by omega) hown hbase hv
end Ve
end Go.Proofs.YtlkiancedgaicaaGreat

/- A vector joined to the union of others. -/
namespace Go.Proofs.YtlkiancedgaicaaGreat
open Go.RowKit Ve
namespace Ve
/-- a union in block u: its row lies in memory behind it -/
def UAt (w : World) (u : Nat) (l : List D) : Prop := ∃ v, Blk w u 286 [v] ∧ OwnD w (u + 1) v l
theorem own_set {w : World} {base : Nat} {g n c k : Nat} {l : List D} (s : Int) (h : OwnD w base (.slice (some ⟨g, 0, none⟩) n c) l) (hk : k < l.length) :
    OwnD (w.setCell ⟨g, k * 2 + 1, none⟩ (iV s)) base (.slice (some ⟨g, 0, none⟩) n c) (l.set k ((l.getD k z0).1, s)) := by
  obtain ⟨h1, h2⟩ := h
  obtain ⟨g', c', cur, e1, hb, hg, hnc, hcm, hcs, htake⟩ := h2.resolve_left (fun h => by cases h.1)
  simp only [Value.slice.injEq, Option.some.injEq, Addr.mk.injEq, and_true] at e1
  obtain ⟨rfl, rfl, rfl⟩ := e1
  obtain ⟨L, rfl⟩ : ∃ L : List Value, cur = L.toArray := ⟨cur.toList, by simp⟩
  have hB : Blk w g 127 L := hg
  simp only [List.size_toArray] at hcs htake
  have hB2 := hB.set (k * 2 + 1) (iV s)
  refine ⟨by rw [dotsC_len], Or.inr ⟨g, c, (L.set (k * 2 + 1) (iV s)).toArray, by rw [List.length_set], hb, hB2, by rw [List.length_set]; exact hnc, hcm, by simp [hcs], ?_⟩⟩
  show List.take _ (L.set (k * 2 + 1) (iV s)) = _
  rw [List.length_set, List.take_set, htake]
  apply List.ext_getElem?
  intro j
  have hl2 := dotsC_len l
  rw [List.getElem?_set, hl2]
  by_cases hj : j < l.length * 2
  · obtain ⟨i, hi⟩ : ∃ i, j = i * 2 ∨ j = i * 2 + 1 := ⟨j / 2, by omega⟩
    have hil : i < l.length := by omega
    obtain ⟨a1, a2⟩ := dotsC_at l i hil
    obtain ⟨b1, b2⟩ := dotsC_at (l.set k ((l.getD k z0).1, s)) i (by rw [List.length_set]; exact hil)
    have hgd : (l.set k ((l.getD k z0).1, s)).getD i z0 = if k = i then ((l.getD k z0).1, s) else l.getD i z0 := by
      rw [List.getD_eq_getElem?_getD, List.getElem?_set]
      by_cases hki : k = i
      · subst hki; simp [hil]
      · simp [hki, List.getD_eq_getElem?_getD]
    rw [hgd] at b1 b2
    rcases hi with rfl | rfl
    · rw [if_neg (by omega), a1, b1]
      by_cases hki : k = i
      · subst hki; simp
      · simp [hki]
    · by_cases hki : k = i
      · subst hki; rw [if_pos rfl, if_pos (by omega), b2]; simp
      · rw [if_neg (by omega), a2, b2]; simp [hki]
  · rw [List.getElem?_eq_none (l := dotsC (l.set k _)) (by rw [dotsC_len, List.length_set]; omega), List.getElem?_eq_none (l := dotsC l) (by rw [hl2]; omega)]
    split <;> simp; omega
abbrev TS (W1 : World) (NB ub : Nat) (x y : Int) (r : Value) (w' : World) : Prop := W1.grownBy w' none ∧ w'.cell? ⟨ub, 0, none⟩ = some r ∧ w'.cell? ⟨NB, 0, none⟩ = some (iV x) ∧ w'.cell? ⟨NB, 1, none⟩ = some (iV y)
theorem ts_keep {W1 w1 w2 : World} {NB ub : Nat} {x y : Int} {r : Value} (hg : w1.grownBy w2 none) (h : TS W1 NB ub x y r w1) : TS W1 NB ub x y r w2 :=
  ⟨gb_trans h.1 hg, by rw [gb_cell hg (block_lt_of_cell h.2.1) (by simp)]; exact h.2.1, by rw [gb_cell hg (block_lt_of_cell h.2.2.1) (by simp)]; exact h.2.2.1, by rw [gb_cell hg (block_lt_of_cell h.2.2.2) (by simp)]; exact h.2.2.2⟩
theorem ts_drew {W1 w1 : World} {NB ub : Nat} {x y : Int} {r : Value} (h : TS W1 NB ub x y r w1) : TS W1 NB ub x y r w1.drew := ts_keep (gb_drew (gb_refl _ _)) h
def TakeOut (w0 : World) (ub : Nat) (f : Int → Int) (e : Ending) (w' : World) : Prop := e = .returned (.tuple #[]) ∧ ∃ l, UAt w' ub l ∧ Rt 0 l ∧ (∀ c, up l c = f c) ∧ w0.grownBy w' none
theorem uat_set {w5 : World} {ub : Nat} {l2 : List D} {a5 : Option Addr} {c5 : Nat} {r : Value} (ho : OwnD w5 (ub + 1) (.slice a5 l2.length c5) l2) (hb : Blk w5 ub 286 [r]) : UAt (w5.setCell ⟨ub, 0, none⟩ (.slice a5 l2.length c5)) ub l2 :=
  ⟨_, hb.set 0 _, ho.kept (gb_set (gb_refl w5 (some ub)) 0 _) (by
    right
    intro e
    have := (ho.lt _ e).1
    omega)⟩
theorem gb_ownD {w0 w w' : World} {ub : Nat} {v : Value} {l : List D} {w1 : World} (h : w0.grownBy w none) (ho : OwnD w1 (ub + 1) v l) (hub : w0.heap.size ≤ ub) (hg : w.grownBy w' v.ownBlock) : w0.grownBy w' none :=
  ⟨hg.os.trans h.os, hg.tape.trans h.tape, hg.output.trans h.output, Nat.le_trans h.size hg.size, fun k hk _ => (hg.block k (Nat.lt_of_lt_of_le hk h.size) (fun e => by have := (ho.lt k e.symm).1; omega)).trans (h.block k hk (by simp))⟩
theorem ins_math {l r : List D} {x y : Int} {p : Nat} {F : Int → Int} (hl : Rt 0 l) (hr : Rt 0 ((x, y) :: r)) (hp : p ≤ l.length ∧ (∀ i, i < p → (l.getD i z0).1 < x) ∧ ∀ i, p ≤ i → i < l.length → x ≤ (l.getD i z0).1)
    (hu : (0 : Int) = if p < l.length ∧ (l.getD p z0).1 = x then (l.getD p z0).2 else 0) (hup : up l x = 0) (hF : ∀ c, max (up l c) (um ((x, y) :: r) c) = F c) :
    Rt 0 (nx l p (x, y)) ∧ ∀ c, max (up (nx l p (x, y)) c) (um r c) = F c := by
  have h1 := hr.1
  have h2 := hr.2.1
  have h3 := hr.2.2.1
  have h4 := hr.2.2.2.1
  simp only at h1 h2 h3 h4
  obtain ⟨i1, i2⟩ := nx_right (d := (x, y)) p hl hp.1 h1 h2 h3 h4 hp.2.1 (fun hk => by
    have := hp.2.2 p (Nat.le_refl _) hk
    rcases Int.lt_or_eq_of_le this with h | h
    · exact h
    · exfalso
      rw [if_pos ⟨hk, h.symm⟩] at hu
      have hm : l.getD p z0 ∈ l := by
        rw [List.getD_eq_getElem?_getD, List.getElem?_eq_getElem hk]; exact List.getElem_mem _
      have := (hl.mem _ hm).2.2.1
      omega)
  refine ⟨i1, fun c => ?_⟩
  have := hF c
  have hn := um_nn r c
  rw [i2, ← this, um]
  by_cases hc : x = c
  · subst hc; simp only [if_true]; rw [hup]; omega
  · rw [if_neg hc, if_neg hc]
theorem set_math {l r : List D} {x y u : Int} {p : Nat} {F : Int → Int} (hl : Rt 0 l) (hr : Rt 0 ((x, y) :: r)) (hu : u = if p < l.length ∧ (l.getD p z0).1 = x then (l.getD p z0).2 else 0) (hup : up l x = u) (hu0 : ¬ u = 0) (hF : ∀ c, max (up l c) (um ((x, y) :: r) c) = F c) :
    p < l.length ∧ l.getD p z0 = (x, u) ∧ Rt 0 (l.set p ((l.getD p z0).1, max u y)) ∧ ∀ c, max (up (l.set p ((l.getD p z0).1, max u y)) c) (um r c) = F c := by
  have h3 := hr.2.2.1
  have h4 := hr.2.2.2.1
  simp only at h3 h4
  by_cases hpx : p < l.length ∧ (l.getD p z0).1 = x
  · rw [if_pos hpx] at hu
    have hb := up_bd (c := x) hl
    rw [hup] at hb
    obtain ⟨i1, i2⟩ := st_right p (max u y) hl hpx.1 (by omega) (by omega)
    refine ⟨hpx.1, ?_, i1, fun c => ?_⟩
    · rw [← hpx.2, hu]
    · have := hF c
      have hn := um_nn r c
      rw [i2, ← this, um, hpx.2]
      by_cases hc : x = c
      · subst hc; simp only [if_true]; rw [hup]; omega
      · rw [if_neg hc, if_neg hc]
  · rw [if_neg hpx] at hu; exact absurd hu hu0
set_option maxHeartbeats 1000000 in
theorem take_any (w0 w : World) (ub B n cap : Nat) (a : Option Addr) (d l : List D) (hub : w0.heap.size ≤ ub) (hg : w0.grownBy w none) (hU : UAt w ub l) (hn : d.length = n) (hd : DotsAt w0 B a d) (hrl : Rt 0 l) (hrd : Rt 0 d) :
    Calls Tryz.prog 221 #[.pointer (some ⟨ub, 0, none⟩), .slice a n cap] w (TakeOut w0 ub (fun c => max (up l c) (um d c))) := by
  have hd8 := hrd.len (by decide)
  have HD := Lib.hid hd; clear hd
  have HN := Lib.hid hn; clear hn
  obtain ⟨F, hF⟩ : ∃ F, F = (fun c => max (up l c) (um d c)) := ⟨_, rfl⟩
  have HI0 : Hid (∃ l', UAt w ub l' ∧ Rt 0 l' ∧ (∀ c, max (up l' c) (um (d.drop 0) c) = F c) ∧ w0.grownBy w none) := ⟨l, hU, hrl, fun c => by rw [hF]; rfl, hg⟩
  rw [← hF]
  clear hU hrl hg hF
  have hn8 : n ≤ 8 := by rw [← HN.out]; omega
  clear hd8
  go_enter Tryz.func221, Tryz.ntmps221
  go_wp2
  go_loopw [9] (fun i wr => ∃ (k : Nat), k ≤ n ∧ i = .int .i64 k ∧ Hid (∃ l', UAt wr ub l' ∧ Rt 0 l' ∧ (∀ c, max (up l' c) (um (d.drop k) c) = F c) ∧ w0.grownBy wr none)) (fun i _ => n - (intOf i).toNat)
  case atStart => exact ⟨0, by omega, rfl, HI0.out⟩
  case round =>
    obtain ⟨k, hk, rfl, HI⟩ := hrel
    by_cases hlt : k < n
    · obtain ⟨l', hU, hrl, hF, hg⟩ := HI.out
      clear HI HI0
      obtain ⟨pb, po, rfl, hpb, hcs⟩ := (HD.out.stay hg).cells.resolve_left (by rw [HN.out]; omega)
      obtain ⟨k1, k2⟩ := hcs k (by rw [HN.out]; exact hlt)
      clear hcs
      have hdd := drop_at d k (by rw [HN.out]; exact hlt)
      obtain ⟨x, y, hxy⟩ : ∃ x y, d.getD k z0 = (x, y) := ⟨_, _, rfl⟩
      rw [hxy] at k1 k2 hdd
      simp only at k1 k2
      have hm := hrd.drop k
      rw [hdd] at hm
      have hi : (k : Int) < (n : Int) := by omega
      have HF := Lib.hid (And.intro hF (And.intro hdd hm)); clear hF hdd hm hxy
      obtain ⟨v, hbu, hown⟩ := hU
      obtain ⟨a', c', rfl, hl', hnc', hda⟩ := own_dots hown
      obtain ⟨W1, hW1⟩ : ∃ W1, W1 = (wr.alloc (.cells #[iV x, iV y] 127)) := ⟨_, rfl⟩
      have hg1 : wr.grownBy W1 none := by rw [hW1]; exact gb_alloc (gb_refl _ _) _
      have hB : Blk W1 wr.heap.size 127 [iV x, iV y] := by rw [hW1]; exact Blk.new wr _ _
      obtain ⟨NB, hNB⟩ : ∃ NB, NB = wr.heap.size := ⟨_, rfl⟩
      rw [← hNB] at hB
      have hubN : ub < NB := by rw [hNB]; exact hbu.lt
      have hu1 : Blk W1 ub 286 [.slice a' l'.length c'] := hbu.grown hg1 (by simp)
      have ho1 : OwnD W1 (ub + 1) (.slice a' l'.length c') l' := hown.kept hg1 (by cases (Value.slice a' l'.length c').ownBlock <;> simp)
      have hP := Lib.hid (fun w' (hg' : W1.grownBy w' none) => place_any wr.heap.size l'.length c' a' l' x w' rfl (hda.stay (gb_trans hg1 hg')) hrl)
      have hS := Lib.hid (fun w' (hg' : W1.grownBy w' none) => seen_any wr.heap.size l'.length c' a' l' x w' rfl (hda.stay (gb_trans hg1 hg')) hrl)
      have HW := Lib.hid (And.intro hu1 (And.intro ho1 (And.intro hB (gb_trans hg hg1))))
      have HP3 := Lib.hid (pl_is hrl x)
      have HU3 := Lib.hid (up_pl (pl l' x) hrl (pl_is hrl x).2.1 (fun hk => (pl_is hrl x).2.2 _ (Nat.le_refl _) hk))
      have HL := Lib.hid hrl
      have hS1 : TS W1 NB ub x y (.slice a' l'.length c') W1 := ⟨gb_refl _ _, hu1.cell (i := 0) rfl, hB.cell (i := 0) rfl, hB.cell (i := 1) rfl⟩
      generalize pl l' x = p at hP HP3 HU3
      generalize hup : up l' x = u at hS HU3
      have HUP := Lib.hid hup
      clear hup hown hbu hda hnc' hl' hg1 hu1 ho1 hB hg hrl hpb
      go_wp2_with fail
      rw [← hW1, ← hNB]
      clear hW1 k1 k2 hNB
      have hS2 := ts_drew hS1
      have HS1 := Lib.hid hS1; clear hS1
      go_region_held3 (fun w' => W1.grownBy w' none ∧ w'.cell? ⟨ub, 0, none⟩ = some (.slice a' l'.length c') ∧ w'.cell? ⟨NB, 0, none⟩ = some (iV x) ∧ w'.cell? ⟨NB, 1, none⟩ = some (iV y))
        (first | (with_reducible exact hS2) | (with_reducible exact ts_keep (by assumption) (by assumption)))
        (first | (go_simp; go_at_call 232; refine (hP.out _ ?_).mono ?_; exact And.left (by assumption); rintro e w3 ⟨rfl, hg3⟩))
      by_cases hu0 : u = 0
      · subst hu0
        go_wp2_with fail
        go_region_held3 (fun w' => W1.grownBy w' none ∧ w'.cell? ⟨ub, 0, none⟩ = some (.slice a' l'.length c') ∧ w'.cell? ⟨NB, 0, none⟩ = some (iV x) ∧ w'.cell? ⟨NB, 1, none⟩ = some (iV y))
          (first | (with_reducible exact ts_drew (by assumption)) | (with_reducible exact ts_keep (by assumption) (by assumption)))
          (first | (go_simp; go_at_call 233; refine (hS.out _ ?_).mono ?_; exact And.left (by assumption); rintro e w4 ⟨rfl, hg4⟩))
        go_wp2_with fail
        have hH : TS W1 NB ub x y (.slice a' l'.length c') w4 := by assumption
        have hgA : W1.grownBy (w4.drew.alloc (.cells #[iV x, iV y] 127)) none := gb_alloc (gb_drew hH.1) _
        have hvA : Blk (w4.drew.alloc (.cells #[iV x, iV y] 127)) w4.heap.size 127 [iV x, iV y] := Blk.new w4.drew [iV x, iV y] _
        have hlb : ∀ r, some r = (Value.slice a' l'.length c').ownBlock → ub + 1 ≤ r ∧ r < W1.heap.size := fun r hr => HW.out.2.1.lt r hr.symm
        have hw4 : W1.heap.size ≤ w4.heap.size := hH.1.size
        have hINS := insert_any (ub + 1) w4.heap.size p (.slice a' l'.length c') l' x y _ (by have := HL.out.len (by decide); omega) HP3.out.1 (HW.out.2.1.kept hgA (by cases (Value.slice a' l'.length c').ownBlock <;> simp)) (by have := hgA.size; have := HW.out.1.lt; omega) hvA (fun e => by have := (hlb _ e.symm).2; omega)
        have hbu4 := (HW.out.1.grown hgA (by simp))
        have HPOST := Lib.hid (fun (v5 : Value) (w5 : World) (ho5 : OwnD w5 (ub + 1) v5 (nx l' p (x, y))) (hg5 : (w4.drew.alloc (.cells #[iV x, iV y] 127)).grownBy w5 (Value.slice a' l'.length c').ownBlock) => hbu4.grown hg5 (fun e => by have := (hlb _ e).1; omega))
        have HR := Lib.hid (And.intro hgA hlb)
        have m1 := hH.2.1
        have m2 := hH.2.2.1
        have m3 := hH.2.2.2
        have d1 : ub ≠ w4.heap.size := by have := HW.out.1.lt; omega
        have d2 : NB ≠ w4.heap.size := by have := HW.out.2.2.1.lt; omega
        have m1' : (w4.drew.alloc (.cells #[iV x, iV y] 127)).cell? ⟨ub, 0, none⟩ = some (.slice a' l'.length c') := hbu4.cell (i := 0) rfl
        have m1'' : (w4.alloc (.cells #[iV x, iV y] 127)).cell? ⟨ub, 0, none⟩ = some (.slice a' l'.length c') := m1'
        have HI := Lib.hid hINS
        clear hgA hvA hlb hINS hbu4 hS2 hw4 hH
        go_region_with (go_at_call 234; refine HI.out.mono ?_; rintro e w5 ⟨v5, rfl, ho5, hg5⟩; obtain ⟨a5, c5, rfl, _, _, _⟩ := own_dots ho5; have hb5 := HPOST.out _ w5 ho5 hg5; have m5 := hb5.cell (i := 0) rfl; have f5 := hb5.free 0; have H5 := Lib.hid (And.intro ho5 (And.intro hg5 hb5)); clear ho5 hg5 hb5 m1 m1' m1'' m2 m3)
        all_goals
          have HNEXT : Hid (∃ l2, UAt (w5.setCell ⟨ub, 0, none⟩ (.slice a5 (nx l' p (x, y)).length c5)) ub l2 ∧ Rt 0 l2 ∧ (∀ c, max (up l2 c) (um (d.drop (k + 1)) c) = F c) ∧ w0.grownBy (w5.setCell ⟨ub, 0, none⟩ (.slice a5 (nx l' p (x, y)).length c5)) none) := by
            obtain ⟨i1, i2⟩ := ins_math (F := F) HL.out HF.out.2.2 HP3.out HU3.out HUP.out (fun c => by rw [← HF.out.1 c, HF.out.2.1])
            exact ⟨_, uat_set H5.out.1 H5.out.2.2, i1, i2, gb_set_new (gb_ownD (gb_trans HW.out.2.2.2 HR.out.1) HW.out.2.1 hub H5.out.2.1) hub _⟩
          clear m5 f5
          go_wp2
          go_roundw
          case rel => exact ⟨k + 1, by omega, by go_num, HNEXT⟩
          case measure => simp [intOf]; omega
      · have hub0 : (u == 0) = false := by simpa using hu0
        go_wp2_with fail
        go_region_held3 (fun w' => W1.grownBy w' none ∧ w'.cell? ⟨ub, 0, none⟩ = some (.slice a' l'.length c') ∧ w'.cell? ⟨NB, 0, none⟩ = some (iV x) ∧ w'.cell? ⟨NB, 1, none⟩ = some (iV y))
          (first | (with_reducible exact ts_drew (by assumption)) | (with_reducible exact ts_keep (by assumption) (by assumption)))
          (first | (go_simp; go_at_call 233; refine (hS.out _ ?_).mono ?_; exact And.left (by assumption); rintro e w4 ⟨rfl, hg4⟩))
        go_wp2_with fail
        have hH : TS W1 NB ub x y (.slice a' l'.length c') w4 := by assumption
        obtain ⟨hpl, hpd, i1, i2⟩ := set_math (F := F) HL.out HF.out.2.2 HU3.out HUP.out hu0 (fun c => by rw [← HF.out.1 c, HF.out.2.1])
        obtain ⟨g, rfl, hgu⟩ : ∃ g, a' = some ⟨g, 0, none⟩ ∧ ub + 1 ≤ g := by
          rcases HW.out.2.1.2 with ⟨e, h0⟩ | ⟨g, _, _, e, hb, _⟩
          · omega
          · simp only [Value.slice.injEq] at e; exact ⟨g, e.1, hb⟩
        have ho4 := HW.out.2.1.kept hH.1 (by simp [Value.ownBlock])
        have hg4' := (gb_trans HW.out.2.2.2 hH.1)
        have hbu4 := HW.out.1.grown hH.1 (by simp)
        have hc4 : w4.cell? ⟨g, p * 2 + 1, none⟩ = some (iV u) := by
          have := ho4.cells (g := g) rfl (p * 2 + 1) _ (dotsC_at l' p hpl).2
          rwa [Addr.add_lit, Nat.zero_add, hpd] at this
        have hf4 : w4.frozen? ⟨g, p * 2 + 1, none⟩ = false := by
          obtain ⟨g', c'', cur, e1, _, hg, _⟩ := ho4.2.resolve_left (fun h => by cases h.1)
          simp only [Value.slice.injEq, Option.some.injEq, Addr.mk.injEq, and_true] at e1
          obtain ⟨rfl, _⟩ := e1
          simp [World.frozen?, hg]
        have HNEXT : Hid (∃ l2, UAt (w4.drew.setCell ⟨g, p * 2 + 1, none⟩ (iV (max u y))) ub l2 ∧ Rt 0 l2 ∧ (∀ c, max (up l2 c) (um (d.drop (k + 1)) c) = F c) ∧ w0.grownBy (w4.drew.setCell ⟨g, p * 2 + 1, none⟩ (iV (max u y))) none) :=
          ⟨_, ⟨_, (hbu4.drew.other (a := ⟨g, p * 2 + 1, none⟩) (by simp; omega) _), by have := own_set (w := w4.drew) (max u y) ho4 hpl; unfold OwnD; rw [List.length_set]; simpa [OwnD] using this⟩, i1, i2, gb_set_new (gb_drew hg4') (by simp; omega) _⟩
        have hpz : (p : Int) < (l'.length : Int) := by omega
        have m1 := hH.2.1
        have m3 := hH.2.2.2
        clear hH hpl hpd i1 i2 hgu ho4 hg4' hbu4 hS2
        go_region
        go_wp2
        go_roundw
        case rel => exact ⟨k + 1, by omega, by go_num, HNEXT⟩
        case measure => simp [intOf]; omega
    · obtain rfl : k = n := by omega
      obtain ⟨l', hU, hrl, hF, hg⟩ := HI.out
      have HO : Hid (TakeOut w0 ub F (.returned (.tuple #[])) wr) := ⟨rfl, l', hU, hrl, fun c => by
        have h1 := hF c
        rw [drop_end d k (by rw [HN.out]; omega)] at h1
        have h2 := (up_bd (c := c) hrl).1
        have h3 : um ([] : List D) c = 0 := rfl
        rw [h3] at h1
        omega, hg⟩
      clear hU hrl hF hg
      generalize TakeOut w0 ub F = Q at HO ⊢
      go_wp2
      go_end0
      exact HO.out
end Ve
end Go.Proofs.YtlkiancedgaicaaGreat

/- Vectors joined; a vector with dots. -/
namespace Go.Proofs.YtlkiancedgaicaaGreat
open Go.RowKit Ve
namespace Ve
/-- rows of dots, in a row, all below block B -/
structure DRowsAt (w : World) (B : Nat) (a : Option Addr) (R : List (List D)) : Prop where
  lim : B ≤ w.heap.size
  cells : R.length = 0 ∨ ∃ pb po, a = some ⟨pb, po, none⟩ ∧ pb < B ∧ ∀ i, i < R.length → ∃ ai ci, w.cell? ⟨pb, po + i, none⟩ = some (.slice ai (R.getD i []).length ci) ∧ DotsAt w B ai (R.getD i [])
theorem DRowsAt.stay {w w' : World} {B : Nat} {a : Option Addr} {R : List (List D)} (h : DRowsAt w B a R) (hg : w.grownBy w' none) : DRowsAt w' B a R := by
  refine ⟨Nat.le_trans h.lim hg.size, ?_⟩
  rcases h.cells with h0 | ⟨pb, po, ha, hlt, hc⟩
  · exact Or.inl h0
  · refine Or.inr ⟨pb, po, ha, hlt, fun i hi => ?_⟩
    obtain ⟨ai, ci, h1, h2⟩ := hc i hi
    exact ⟨ai, ci, by rw [gb_cell hg (p := ⟨pb, po + i, none⟩) (Nat.lt_of_lt_of_le hlt h.lim) (by simp)]; exact h1, h2.stay hg⟩
theorem drop_row (R : List (List D)) (k : Nat) (h : k < R.length) : R.drop k = R.getD k [] :: R.drop (k + 1) := by
  rw [List.drop_eq_getElem_cons h, List.getD_eq_getElem?_getD, List.getElem?_eq_getElem h]; rfl
def JoinOut (w : World) (l : List D) (e : Ending) (w' : World) : Prop := ∃ v, e = .returned v ∧ OwnD w' w.heap.size v l ∧ w.grownBy w' none
set_option maxHeartbeats 400000 in
theorem join_any (B n cap : Nat) (a : Option Addr) (R : List (List D)) (w : World) (hn : R.length = n) (h : DRowsAt w B a R) (hc : n < 9223372036854775808) (hl : ∀ r ∈ R, r.length < 9223372036854775808) :
    Calls Tryz.prog 185 #[.slice a n cap] w (JoinOut w (joinF R)) := by
  have H := Lib.hid h; clear h
  have HN := Lib.hid (And.intro hn hl); clear hn hl
  have HU0 : Hid (∃ l, UAt (w.alloc (.cells #[.slice none 0 0] 286)) w.heap.size l ∧ Rt 0 l ∧ (∀ c, max (up l c) (mx (R.drop 0) c) = mx R c) ∧ allB (R.drop 0) = allB R ∧ w.grownBy (w.alloc (.cells #[.slice none 0 0] 286)) none) :=
    ⟨[], ⟨.slice none 0 0, Blk.new w [.slice none 0 0] _, World.ownsRow_nil _ _ _ _⟩, trivial, fun c => by have := mx_nn R c; rw [List.drop_zero]; show max 0 _ = _; omega, by rw [List.drop_zero], gb_alloc (gb_refl _ _) _⟩
  obtain ⟨Q, hQ⟩ : ∃ Q, Q = JoinOut w (joinF R) := ⟨_, rfl⟩
  rw [← hQ]
  have HQ := Lib.hid hQ; clear hQ
  obtain ⟨ub, hub⟩ : ∃ ub, ub = w.heap.size := ⟨_, rfl⟩
  have hubl : w.heap.size ≤ ub := by omega
  rw [← hub] at HU0
  have HUB := Lib.hid hub
  go_enter Tryz.func185, Tryz.ntmps185
  go_wp2
  rw [← hub]
  clear hub
  go_loopw [8] (fun i wr => ∃ (k : Nat), k ≤ n ∧ i = .int .i64 k ∧ Hid (∃ l, UAt wr ub l ∧ Rt 0 l ∧ (∀ c, max (up l c) (mx (R.drop k) c) = mx R c) ∧ allB (R.drop k) = allB R ∧ w.grownBy wr none)) (fun i _ => n - (intOf i).toNat)
  case atStart => exact ⟨0, by omega, rfl, HU0.out⟩
  case round =>
    obtain ⟨k, hk, rfl, HI⟩ := hrel
    by_cases hlt : k < n
    · obtain ⟨l, hU, hrl, hF, hall, hg⟩ := HI.out
      obtain ⟨pb, po, rfl, hpb, hcs⟩ := (H.out.stay hg).cells.resolve_left (by rw [HN.out.1]; omega)
      obtain ⟨ai, ci, k1, hd⟩ := hcs k (by rw [HN.out.1]; exact hlt)
      obtain ⟨pb', po', e1, _, hcs0⟩ := H.out.cells.resolve_left (by rw [HN.out.1]; omega)
      simp only [Option.some.injEq, Addr.mk.injEq, and_true] at e1
      obtain ⟨rfl, rfl⟩ := e1
      obtain ⟨ai', ci', k1', hd0⟩ := hcs0 k (by rw [HN.out.1]; exact hlt)
      have e2 : w.cell? ⟨pb, po + k, none⟩ = some (.slice ai (R.getD k []).length ci) := by
        rw [← gb_cell hg (p := ⟨pb, po + k, none⟩) (block_lt_of_cell k1') (by simp)]; exact k1
      rw [k1'] at e2
      simp only [Option.some.injEq, Value.slice.injEq, true_and] at e2
      obtain ⟨rfl, rfl⟩ := e2
      clear hcs hcs0 k1'
      have hdr := drop_row R k (by rw [HN.out.1]; exact hlt)
      obtain ⟨d, hdd⟩ : ∃ d, d = R.getD k [] := ⟨_, rfl⟩
      rw [← hdd] at k1 hd hd0 hdr
      have hdl : d.length < 9223372036854775808 := HN.out.2 d (by
        rw [hdd, List.getD_eq_getElem?_getD, List.getElem?_eq_getElem (by rw [HN.out.1]; exact hlt)]; exact List.getElem_mem _)
      have hR := right_any
      have HRT := Lib.hid (vright_any B d.length ci' ai' d wr rfl hd hdl)
      have hi : (k : Int) < (n : Int) := by omega
      have hm : ∀ c, max (up l c) (max (um d c) (mx (R.drop (k + 1)) c)) = mx R c := fun c => by have := hF c; rw [hdr, mx] at this; exact this
      rw [hdr, allB_cons] at hall
      clear hdr hdd hR hd hF HI HU0
      obtain ⟨m, hml⟩ : ∃ m, m = d.length := ⟨_, rfl⟩
      rw [← hml] at k1 HRT
      have HM := Lib.hid hml; clear hml hdl
      cases hrt : rtB 0 d with
      | false =>
        rw [hrt] at hall HRT
        have HO : Hid (∀ w', w.grownBy w' none → Q (.returned (.slice none 0 0)) w') := fun w' hg' => by rw [HQ.out, joinF_no (show allB R = false from hall.symm)]; exact ⟨_, rfl, World.ownsRow_nil _ _ _ _, hg'⟩
        have HG := Lib.hid hg
        clear hm hall hU hrl hd0 hg hrt
        go_wp2_with fail
        refine HRT.out.mono ?_
        rintro e w3 ⟨rfl, hg3⟩
        have HG3 := Lib.hid (gb_trans HG.out hg3); clear hg3
        go_wp2
        exact HO.out _ HG3.out
      | true =>
        rw [hrt] at hall HRT
        have hrd := (rtB_iff _ _).1 hrt
        have HX := Lib.hid (And.intro hU (And.intro hrl (And.intro hm (And.intro hall (And.intro hrd (And.intro hd0 hg))))))
        clear hm hall hU hrl hd0 hg hrt hrd
        go_wp2_with fail
        refine HRT.out.mono ?_
        rintro e w3 ⟨rfl, hg3⟩
        obtain ⟨hU, hrl, hm, hall, hrd, hd0, hg⟩ := HX.out
        have hU3 : UAt w3 ub l := by
          obtain ⟨v, h1, h2⟩ := hU
          exact ⟨v, h1.grown hg3 (by simp), h2.kept hg3 (by cases v.ownBlock <;> simp)⟩
        have HT := Lib.hid (take_any w w3 ub B m ci' ai' d l hubl (gb_trans hg hg3) hU3 HM.out.symm hd0 hrl hrd)
        clear hU hrl hm hall hrd hd0 hg hg3 hU3
        go_wp2_with fail
        refine HT.out.mono ?_
        rintro e w4 ⟨rfl, l2, hU2, hr2, hF2, hg2⟩
        have HN4 : Hid (∃ l, UAt w4 ub l ∧ Rt 0 l ∧ (∀ c, max (up l c) (mx (R.drop (k + 1)) c) = mx R c) ∧ allB (R.drop (k + 1)) = allB R ∧ w.grownBy w4 none) :=
          ⟨l2, hU2, hr2, fun c => by have e := hF2 c; have e2 := HX.out.2.2.1 c; simp only at e; omega, by rw [← HX.out.2.2.2.1]; rfl, hg2⟩
        clear hU2 hr2 hF2 hg2
        go_wp2
        go_roundw
        case rel => exact ⟨k + 1, by omega, by go_num, HN4⟩
        case measure => simp [intOf]; omega
    · obtain rfl : k = n := by omega
      obtain ⟨l, ⟨v, hb, ho⟩, hrl, hF, hall, hg⟩ := HI.out
      rw [List.drop_eq_nil_iff.2 (by rw [HN.out.1]; omega)] at hF hall
      obtain rfl : l = joinF R := joinF_is (hall.symm) hrl (fun c => by rw [← hF c]; have := (up_bd (c := c) hrl).1; show _ = max _ 0; omega)
      obtain ⟨a5, c5, rfl, _, _, _⟩ := own_dots ho
      have HO : Hid (Q (.returned (.slice a5 (joinF R).length c5)) wr) := by
        rw [HQ.out]
        refine ⟨_, rfl, ?_, hg⟩
        rcases ho.2 with h | ⟨g, c, cur, e, hbg, rest⟩
        · exact ⟨ho.1, Or.inl h⟩
        · exact ⟨ho.1, Or.inr ⟨g, c, cur, e, by rw [← HUB.out]; omega, rest⟩⟩
      have b1 := hb.cell (i := 0) rfl
      clear hb ho hrl hF hall hg HQ HU0 HI
      generalize (joinF R).length = jl at *
      go_wp2
      exact HO.out
end Ve
end Go.Proofs.YtlkiancedgaicaaGreat

/- under: what says of a record whether another one of the row is over it. -/
namespace Go.Proofs.YtlkiancedgaicaaGreat
open Go.RowKit Ow Wi Ve Rc
namespace Sb
theorem info_ctx : ∃ i, Tryz.prog.info? 64 = some i ∧ i.zero = some (.slice none 0 0) ∧ i.size = 1 ∧ i.bytes = 24 := by
  have h : (Tryz.prog.info? 64).map (fun i => (i.zero, i.size, i.bytes)) = some (some (.slice none 0 0), 1, 24) := by kernel_rfl
  cases hi : Tryz.prog.info? 64 with
  | none => rw [hi] at h; cases h
  | some i =>
    rw [hi] at h
    simp only [Option.map_some, Option.some.injEq, Prod.mk.injEq] at h
    exact ⟨i, rfl, h.1, h.2.1, h.2.2⟩
/-- rows of dots that lie below block B, in a row of one's own -/
def CtxAt (w : World) (base B : Nat) (v : Value) (R : List (List D)) : Prop :=
  B ≤ base ∧ ∃ xs, w.ownsRow base 64 1 v R.length xs ∧ ∀ i, i < R.length → ∃ a c, xs[i]? = some (.slice a (R.getD i []).length c) ∧ DotsAt w B a (R.getD i [])
theorem CtxAt.nil {w : World} {base B : Nat} (h : B ≤ base) : CtxAt w base B (.slice none 0 0) [] := ⟨h, [], World.ownsRow_nil w _ _ 1, fun i hi => by simp at hi⟩
theorem CtxAt.stay {w w' : World} {base B : Nat} {v : Value} {R : List (List D)} (h : CtxAt w base B v R) (hg : w.grownBy w' none) : CtxAt w' base B v R := by
  obtain ⟨h0, xs, ho, hc⟩ := h
  exact ⟨h0, xs, ho.stay hg, fun i hi => by obtain ⟨a, c, h1, h2⟩ := hc i hi; exact ⟨a, c, h1, h2.stay hg⟩⟩
theorem CtxAt.rows {w : World} {base B : Nat} {v : Value} {R : List (List D)} (h : CtxAt w base B v R) : ∃ a cap, v = .slice a R.length cap ∧ DRowsAt w w.heap.size a R := by
  obtain ⟨h0, xs, ho, hc⟩ := h
  rcases own_shape ho with ⟨rfl, h0⟩ | ⟨g, c, rfl⟩
  · exact ⟨Option.none, 0, by rw [h0], Nat.le_refl _, Or.inl h0⟩
  · refine ⟨_, c, rfl, Nat.le_refl _, Or.inr ⟨g, 0, rfl, (own_lt ho).1, fun i hi => ?_⟩⟩
    obtain ⟨a, c, h1, h2⟩ := hc i hi
    exact ⟨a, c, by rw [Nat.zero_add]; exact own_cell ho h1, h2.up' h2.lim (Nat.le_refl _)⟩
theorem ctx_push (w : World) (base B : Nat) (v : Value) (R : List (List D)) (a : Option Addr) (n c N : Nat) (l : List D) (h : CtxAt w base B v R) (hl : l.length = n) (hd : DotsAt w B a l) (hx : w.cell? ⟨N, 0, none⟩ = some (.slice a n c)) (hk : R.length + 1 ≤ 1000000000) (hb : base ≤ w.heap.size) :
    ∃ v' w', (Builtin.append_ #[82, 82] 82 #[v, .slice (some ⟨N, 0, none⟩) 1 1]).run Tryz.prog w = .ok v' w' ∧ CtxAt w' base B v' (R ++ [l]) ∧ w.grownBy w' v.ownBlock := by
  obtain ⟨h0, xs, ho, hc⟩ := h
  obtain ⟨i, hi, hz, hs, hby⟩ := info_ctx
  obtain ⟨v', w', hr, hno, hg, _⟩ := run_append_own (P := Tryz.prog) w base 82 82 64 i (.slice none 0 0) 1 24 Tryz.underlying82 hi hz hs hby rfl (by decide) v R.length xs ho ⟨N, 0, none⟩ 1 1 [.slice a n c] rfl
    (fun j u hu => by
      have hj : j = 0 := by have := (List.getElem?_eq_some_iff.1 hu).1; simp at this; omega
      subst hj
      simp at hu; subst hu
      rw [Addr.add_lit]; exact hx) (fun u hu => by rw [List.mem_singleton.1 hu]; rfl) (by unfold maxLen; omega) (by omega) hb
  have hlt : ∀ x, v.ownBlock = some x → B ≤ x := fun x e => Nat.le_trans h0 (ho.lt x e).1
  have hxl : xs.length = R.length := by have := ho.1; omega
  refine ⟨v', w', hr, ⟨h0, xs ++ [.slice a n c], by rw [List.length_append]; exact hno, fun j hj => ?_⟩, hg⟩
  rw [List.length_append, List.length_singleton] at hj
  by_cases hjl : j < R.length
  · obtain ⟨a1, c1, e1, e2⟩ := hc j hjl
    have e : (R ++ [l]).getD j [] = R.getD j [] := by rw [List.getD_eq_getElem?_getD, List.getD_eq_getElem?_getD, List.getElem?_append_left hjl]
    rw [e]
    exact ⟨a1, c1, by rw [List.getElem?_append_left (by omega)]; exact e1, e2.kept hg hlt⟩
  · obtain rfl : j = R.length := by omega
    have e : (R ++ [l]).getD R.length [] = l := by rw [List.getD_eq_getElem?_getD, List.getElem?_append_right (Nat.le_refl _)]; simp
    rw [e]
    exact ⟨a, c, by rw [← hxl, List.getElem?_append_right (Nat.le_refl _)]; simp [hl], hd.kept hg hlt⟩
/-- what under answers: a function and its joined contexts -/
def UnderAt (w : World) (N : Nat) (l : List E) : Prop := ∃ a n c, w.cell? ⟨N, 0, none⟩ = some (.slice a n c) ∧ (joinF ((recs l).map R.cx)).length = n ∧ n < 9223372036854775808 ∧ DotsAt w w.heap.size a (joinF ((recs l).map R.cx))
def UnderOut (w : World) (l : List E) (e : Ending) (w' : World) : Prop := ∃ N, e = .returned (.func (.func 186) #[] #[.pointer (some ⟨N, 0, none⟩)]) ∧ w.grownBy w' none ∧ UnderAt w' N l
theorem UnderAt.stay {w w' : World} {N : Nat} {l : List E} (h : UnderAt w N l) (hg : w.grownBy w' none) : UnderAt w' N l := by
  obtain ⟨a, n, c, h1, h2, h3, h4⟩ := h
  exact ⟨a, n, c, by rw [gb_cell hg (block_lt_of_cell h1) (by simp)]; exact h1, h2, h3, (h4.stay hg).up' hg.size (Nat.le_refl _)⟩
theorem take_next {α β : Type} (f : α → β) (l : List α) (k : Nat) (d : α) (h : k < l.length) : (l.take (k + 1)).map f = (l.take k).map f ++ [f (l.getD k d)] := by
  rw [List.take_succ_eq_append_getElem h, List.map_append, List.getD_eq_getElem?_getD, List.getElem?_eq_getElem h]; rfl
set_option maxHeartbeats 1000000 in
set_option maxRecDepth 100000 in
theorem under_any (B n c : Nat) (a : Option Addr) (l : List E) (w : World) (hn : l.length = n) (h : RRow w B a l) (hc : n ≤ 1000000) :
    Calls Tryz.prog 131 #[.slice a n c] w (UnderOut w l) := by
  have H := Lib.hid h; clear h
  have HN := Lib.hid hn; clear hn
  obtain ⟨Q, hQ⟩ : ∃ Q, Q = UnderOut w l := ⟨_, rfl⟩
  rw [← hQ]
  have HQ := Lib.hid hQ; clear hQ
  have HB := H.out.lim
  go_enter Tryz.func131, Tryz.ntmps131
  go_wp2
  go_loopw [3, 9] (fun v i wr => ∃ (k : Nat), k ≤ n ∧ i = .int .i64 k ∧ Hid (w.grownBy wr none ∧ CtxAt wr w.heap.size B v ((l.take k).map fun x => x.2.cx))) (fun _ i _ => n - (intOf i).toNat)
  case atStart => exact ⟨0, by omega, rfl, gb_refl _ _, CtxAt.nil HB⟩
  case round =>
    obtain ⟨k, hk, rfl, HI⟩ := hrel
    by_cases hlt : k < n
    · have hl : 0 < l.length := by rw [HN.out]; omega
      obtain ⟨pb, po, rfl, hpb, hcs⟩ := (H.out.stay HI.out.1).at hl
      have hx := hcs k (by rw [HN.out]; exact hlt)
      have hra := (H.out.stay HI.out.1).recs _ (getD_mem (l := l) (i := k) (by rw [HN.out]; exact hlt))
      have htn := take_next (fun x : E => x.2.cx) l k e0 (by rw [HN.out]; exact hlt)
      generalize l.getD k e0 = x at *
      obtain ⟨q, r⟩ := x
      simp only at htn hra
      obtain ⟨c0, c1, c2, c3, c4, c5, c6⟩ := hx
      simp only at c0 c1 c2 c3 c4 c5 c6
      rw [Nat.add_zero] at c0
      have hcx := hra.dots
      have hl1 := hra.l1
      obtain ⟨s, a1, n1, c1', a2, n2, c2', a3, n3, c3'⟩ := q
      obtain ⟨key, cl, sq, cx, g, val, sig⟩ := r
      simp only at c0 c1 c2 c3 c4 c5 c6 hcx hl1 htn
      have hgA := gb_alloc (gb_refl wr none) (.cells #[.string s, iV cl, iV sq, .slice a1 n1 c1', .bool g, .slice a2 n2 c2', .slice a3 n3 c3'] 66)
      obtain ⟨W1, hW1⟩ : ∃ W1, W1 = wr.alloc (.cells #[.string s, iV cl, iV sq, .slice a1 n1 c1', .bool g, .slice a2 n2 c2', .slice a3 n3 c3'] 66) := ⟨_, rfl⟩
      obtain ⟨N, hN⟩ : ∃ N, N = wr.heap.size := ⟨_, rfl⟩
      have hB := blk_at wr [.string s, iV cl, iV sq, .slice a1 n1 c1', .bool g, .slice a2 n2 c2', .slice a3 n3 c3'] 66 hN.symm
      rw [← hW1] at hgA hB
      have m3 := hB.cell (i := 3) rfl
      have hgB := gb_alloc hgA (.cells #[.slice a1 n1 c1'] 64)
      obtain ⟨M, hM⟩ : ∃ M, M = W1.heap.size := ⟨_, rfl⟩
      have hbx : Blk (W1.alloc (.cells #[.slice a1 n1 c1'] 64)) M 64 [.slice a1 n1 c1'] := blk_at _ _ _ hM.symm
      obtain ⟨v', w', hap, hcp, hgp⟩ := ctx_push (W1.alloc (.cells #[.slice a1 n1 c1'] 64)) w.heap.size B u3 _ a1 n1 c1' M cx (HI.out.2.stay hgB) hl1 (hcx.stay hgB) (hbx.cell (i := 0) rfl) (by rw [List.length_map, List.length_take]; omega) (Nat.le_trans HI.out.1.size hgB.size)
      have hgw : w.grownBy w' none := by
        obtain ⟨_, xs, ho, _⟩ := HI.out.2
        exact gb_own (gb_trans HI.out.1 hgB) (ho.stay hgB) (Nat.le_refl _) hgp
      rw [← htn] at hcp
      have HX := Lib.hid (And.intro hgw hcp)
      have HS : Hid (∃ a cap, u3 = .slice a k cap) := by
        obtain ⟨a, cap, e, _⟩ := HI.out.2.rows
        refine ⟨a, cap, ?_⟩
        rw [e, List.length_map, List.length_take, Nat.min_eq_left (by rw [HN.out]; omega)]
      rw [hM, hW1, World.size_alloc] at hap
      clear hgA hgB hbx hgw hcp hgp hcs hra hcx hl1 htn hB m3 hM hN hW1
      go_wp2_with (at_builtin; refine Lib.wpList_append_run _ rfl _ _ _ _ rfl _ _ rfl rfl _ _ hap ?_)
      exact ⟨⟨k + 1, by omega, rfl, HX.out⟩, by show n - ((k : Int) + 1).toNat < n - (k : Int).toNat; omega⟩
    · obtain rfl : k = n := by omega
      obtain ⟨a', cap, rfl, hD⟩ := HI.out.2.rows
      have hlen : ((l.take k).map fun x => x.2.cx) = (recs l).map R.cx := by rw [List.take_of_length_le (by rw [HN.out]; exact Nat.le_refl _), List.map_map]; rfl
      rw [hlen] at hD
      have hlt2 : ((recs l).map R.cx).length = k := by rw [List.length_map, List.length_map, HN.out]
      have HJ := Lib.hid (Ve.join_any wr.heap.size k cap a' ((recs l).map R.cx) wr hlt2 hD (by omega) (fun r hr => by
        obtain ⟨y, hy, rfl⟩ := List.mem_map.1 hr
        obtain ⟨x, hx, rfl⟩ := List.mem_map.1 hy
        have := (H.out.recs x hx)
        rw [this.l1]; exact this.top))
      rw [hlen, hlt2]
      have HG := Lib.hid HI.out.1
      clear hD hlen hlt HI
      go_wp2_with fail
      refine HJ.out.mono ?_
      rintro e w2 ⟨v, rfl, ho, hg⟩
      obtain ⟨a2, c2, rfl, hl2, _, hd2⟩ := own_dots ho
      have HG2 := Lib.hid (And.intro (gb_trans HG.out hg) (And.intro hd2 (Ve.Rt.len (joinF_right ((recs l).map R.cx)) (by decide))))
      clear hg ho hd2
      have hgA := gb_alloc (gb_refl w2 none) (.cells #[.slice a2 (joinF ((recs l).map R.cx)).length c2] 64)
      have hbx := blk_at w2 [.slice a2 (joinF ((recs l).map R.cx)).length c2] 64 rfl
      have HE : Hid (UnderOut w l (.returned (.func (.func 186) #[] #[.pointer (some ⟨w2.heap.size, 0, none⟩)])) (w2.alloc (.cells #[.slice a2 (joinF ((recs l).map R.cx)).length c2] 64))) :=
        ⟨w2.heap.size, rfl, gb_trans HG2.out.1 hgA, a2, _, c2, hbx.cell (i := 0) rfl, rfl, by have := HG2.out.2.2; omega, (HG2.out.2.1.stay hgA).up' hgA.size (Nat.le_refl _)⟩
      clear hgA hbx
      rw [← HQ.out] at HE
      generalize (joinF ((recs l).map R.cx)).length = J at HE ⊢
      go_wp2
      exact HE.out
set_option maxHeartbeats 1000000 in
set_option maxRecDepth 100000 in
/-- what it says of a record -/
theorem says_any (N : Nat) (l : List E) (x : E) (w : World) (h : UnderAt w N l) (hr : ∀ a ∈ recs l, Rt 0 a.cx) :
    Calls Tryz.prog 186 #[recV x, .pointer (some ⟨N, 0, none⟩)] w fun e w' => e = .returned (.bool (underB (recs l) x.2)) ∧ w.grownBy w' none := by
  have hU := seen_is hr x.2
  obtain ⟨a, n, c, h1, h2, h3, h4⟩ := h
  rw [← hU]
  clear hU
  generalize joinF ((recs l).map R.cx) = J at *
  obtain ⟨⟨s, a1, n1, c1, a2, n2, c2, a3, n3, c3⟩, ⟨key, cl, sq, cx, g, val, sig⟩⟩ := x
  show Calls _ _ #[.agg #[.string s, iV cl, iV sq, .slice a1 n1 c1, .bool g, .slice a2 n2 c2, .slice a3 n3 c3], .pointer (some ⟨N, 0, none⟩)] w fun e w' => e = .returned (.bool (hasB J (cl, sq))) ∧ w.grownBy w' none
  have HH := Lib.hid (fun w' (hg : w.grownBy w' none) => has_any w.heap.size n c a J cl sq w' h2 (h4.stay hg) h3)
  generalize hasB J (cl, sq) = b at *
  obtain ⟨W0, hW0⟩ : ∃ W0, W0 = w.alloc (.cells #[.string s, iV cl, iV sq, .slice a1 n1 c1, .bool g, .slice a2 n2 c2, .slice a3 n3 c3] 66) := ⟨_, rfl⟩
  obtain ⟨M, hM⟩ : ∃ M, M = w.heap.size := ⟨_, rfl⟩
  have hg0 : w.grownBy W0 none := by rw [hW0]; exact gb_alloc (gb_refl _ _) _
  have hb0 : Blk W0 M 66 [.string s, iV cl, iV sq, .slice a1 n1 c1, .bool g, .slice a2 n2 c2, .slice a3 n3 c3] := by rw [hW0]; exact blk_at _ _ _ hM.symm
  have k1 : W0.cell? ⟨N, 0, none⟩ = some (.slice a n c) := by rw [gb_cell hg0 (block_lt_of_cell h1) (by simp)]; exact h1
  have HG1 := Lib.hid (And.intro hg0 (And.intro hb0 k1)); clear hg0 hb0 k1 h1 h2 h3 h4
  have HD : Hid (∀ w', Calls Tryz.prog 188 #[vV s cl sq a1 n1 c1 g a2 n2 c2 a3 n3 c3] w' fun e w'' => e = .returned (.agg #[iV cl, iV sq]) ∧ w'.grownBy w'' none) := fun w' => by
    go_enter Tryz.func188, Tryz.ntmps188
    go_wp2
    exact bodyPost_ret (v := .agg #[iV cl, iV sq]) (by simp [results, Tryz.results188, go_sem]) rfl ⟨rfl, gb_alloc (gb_alloc (gb_refl _ _) _) _⟩
  go_enter Tryz.func186, Tryz.ntmps186
  go_wp2_with fail
  rw [← hW0, ← hM]
  clear hW0 hM
  refine Fg.region_t [] [.any, .any, .any, .val (Value.bool b), .val (Value.slice a n c), .val (vV s cl sq a1 n1 c1 g a2 n2 c2 a3 n3 c3), .val (Value.agg #[iV cl, iV sq]), .val (Value.bool b)] W0 5 (gb_refl _ _) (by kernel_rfl) (by kernel_rfl) (by kernel_rfl) (by kernel_rfl) (by decide) (by kernel_rfl) ?_ ?_
  · refine ⟨Fg.vT rfl (by decide) fun ac w h => ?_, ?_⟩
    · have e1 : ac.tmps.getD 1 undef = Value.pointer (some ⟨N, 0, none⟩) := h.rest 1 (by kernel_rfl)
      have y0 : w.cell? ⟨N, 0, none⟩ = some (.slice a n c) := by rw [gb_cell h.base (block_lt_of_cell (HG1.out.2.2)) (by simp)]; exact HG1.out.2.2
      refine ⟨Value.slice a n c, w, wants_none rfl, ?_, gb_refl _ _, rfl⟩
      clear h
      simp only [execOp, Act.eval, e1]
      go_simp
    refine ⟨Fg.vT rfl (by decide) fun ac w h => ?_, ?_⟩
    · have e2 : ac.tmps.getD 2 undef = Value.pointer (some ⟨M, 0, none⟩) := h.rest 2 (by kernel_rfl)
      have m0 := ((HG1.out.2.1).grown h.base (by simp)).cell (i := 0) rfl
      have m1 := ((HG1.out.2.1).grown h.base (by simp)).cell (i := 1) rfl
      have m2 := ((HG1.out.2.1).grown h.base (by simp)).cell (i := 2) rfl
      have m3 := ((HG1.out.2.1).grown h.base (by simp)).cell (i := 3) rfl
      have m4 := ((HG1.out.2.1).grown h.base (by simp)).cell (i := 4) rfl
      have m5 := ((HG1.out.2.1).grown h.base (by simp)).cell (i := 5) rfl
      have m6 := ((HG1.out.2.1).grown h.base (by simp)).cell (i := 6) rfl
      refine ⟨vV s cl sq a1 n1 c1 g a2 n2 c2 a3 n3 c3, w, wants_none rfl, ?_, gb_refl _ _, rfl⟩
      clear h
      simp only [execOp, Act.eval, e2]
      go_simp
    refine ⟨Fg.cT rfl (by decide) fun ac w h => ?_, ?_⟩
    · have e5 : ac.tmps.getD 5 undef = vV s cl sq a1 n1 c1 g a2 n2 c2 a3 n3 c3 := h.dep 5 (by kernel_rfl)
      refine ⟨188, #[vV s cl sq a1 n1 c1 g a2 n2 c2 a3 n3 c3], wants_none rfl, Fg.run_call rfl rfl (by simp only [List.map_toArray, List.map_cons, List.map_nil, Act.eval, e5]) (Fg.run_enter Tryz.func188 (by kernel_rfl) (by kernel_rfl)), ?_⟩
      exact (HD.out w).mono fun _ _ ⟨he, hg⟩ => ⟨_, he, hg, rfl⟩
    refine ⟨Fg.cT rfl (by decide) fun ac w h => ?_, ?_⟩
    · have e4 : ac.tmps.getD 4 undef = Value.slice a n c := h.dep 4 (by kernel_rfl)
      have e6 : ac.tmps.getD 6 undef = Value.agg #[iV cl, iV sq] := h.dep 6 (by kernel_rfl)
      refine ⟨187, #[Value.slice a n c, Value.agg #[iV cl, iV sq]], wants_none rfl, Fg.run_call rfl rfl (by simp only [List.map_toArray, List.map_cons, List.map_nil, Act.eval, e4, e6]) (Fg.run_enter Tryz.func187 (by kernel_rfl) (by kernel_rfl)), ?_⟩
      exact (HH.out w (gb_trans HG1.out.1 h.base)).mono fun _ _ ⟨he, hg⟩ => ⟨_, he, hg, rfl⟩
    refine ⟨Fg.vT rfl (by decide) fun ac w h => ?_, ?_⟩
    · have e7 : ac.tmps.getD 7 undef = Value.bool b := h.dep 7 (by kernel_rfl)
      exact ⟨_, w, wants_none rfl, Fg.run_assign rfl e7, gb_refl _ _, rfl⟩
    trivial
  · intro aq wq hB hsz hdf hrest hslots hpt
    obtain ⟨u0, e0⟩ : ∃ u, aq.tmps.getD 0 undef = u := ⟨_, rfl⟩
    obtain ⟨u1, e1⟩ : ∃ u, aq.tmps.getD 1 undef = u := ⟨_, rfl⟩
    obtain ⟨u2, e2⟩ : ∃ u, aq.tmps.getD 2 undef = u := ⟨_, rfl⟩
    have e3 : aq.tmps.getD 3 undef = Value.bool b := hslots 3 (by kernel_rfl)
    obtain ⟨u4, e4⟩ : ∃ u, aq.tmps.getD 4 undef = u := ⟨_, rfl⟩
    obtain ⟨u5, e5⟩ : ∃ u, aq.tmps.getD 5 undef = u := ⟨_, rfl⟩
    obtain ⟨u6, e6⟩ : ∃ u, aq.tmps.getD 6 undef = u := ⟨_, rfl⟩
    obtain ⟨u7, e7⟩ : ∃ u, aq.tmps.getD 7 undef = u := ⟨_, rfl⟩
    obtain rfl := Fg.frame_is (a := aq) (vs := [u0, u1, u2, Value.bool b, u4, u5, u6, u7]) hsz ⟨e0, e1, e2, e3, e4, e5, e6, e7, trivial⟩ hdf
    clear hsz hdf hrest hslots hpt e0 e1 e2 e3 e4 e5 e6 e7
    have HGq := Lib.hid (gb_trans HG1.out.1 hB)
    clear hB
    refine wpList_nil ?_
    go_wp2
    go_ret
    exact ⟨rfl, HGq.out⟩
end Sb
end Go.Proofs.YtlkiancedgaicaaGreat
