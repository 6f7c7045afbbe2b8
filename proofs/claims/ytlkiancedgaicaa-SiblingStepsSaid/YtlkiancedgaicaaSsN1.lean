/- texts merged, part 1: XSbFromM XSbTame XSbStepsM XRcOver XSbTameW -/
import Derived.Test.YtlkiancedgaicaaSsB4
import Derived.Test.YtlkiancedgaicaaSsB3
import Derived.Test.YtlkiancedgaicaaSsB2
import Derived.Deep.Cut
import Derived.Deep.CutRange
/- What is few enough; what is joined: the mathematics of the law on Join. -/
namespace Go.Proofs.Ytlkiancedgaicaa
open Go.RowKit Ow Wi Ve Rc
namespace Sb
/-- a record that is small enough -/
def Small (x : E) : Prop := x.1.n1 ≤ 1000000 ∧ x.1.n2 ≤ 1000000 ∧ x.1.n3 ≤ 1000000
theorem cnt_small {x : E} (h : cntE x ≤ 2500) : Small x := by unfold cntE at h; unfold Small; omega
theorem le_sum_mem : ∀ {l : List Nat} {a : Nat}, a ∈ l → a ≤ l.sum
  | b :: l, a, h => by
    rw [List.sum_cons]
    rcases List.mem_cons.1 h with rfl | h
    · omega
    · have := le_sum_mem h; omega
  | [], _, h => by cases h
theorem sum_mem {l : List E} {x : E} (h : x ∈ l) : cntE x ≤ sumC l := by
  unfold sumC
  exact le_sum_mem (List.mem_map.2 ⟨x, h, rfl⟩)
theorem sum_len (l : List E) : l.length ≤ sumC l := by
  induction l with
  | nil => exact Nat.le_refl _
  | cons x l ih =>
    have : sumC (x :: l) = cntE x + sumC l := by simp [sumC]
    rw [this, List.length_cons]
    have : 1 ≤ cntE x := by unfold cntE; omega
    omega
theorem sumS_mem {S : List (List E)} {l : List E} (h : l ∈ S) : sumC l ≤ (S.map sumC).sum := le_sum_mem (List.mem_map.2 ⟨l, h, rfl⟩)
/-- few: no set is great -/
def Few (S : List (List E)) : Prop := ∀ l ∈ S, l.length ≤ 2500 ∧ ∀ x ∈ l, Small x
theorem few_of {S : List (List E)} {m : Nat} (h : m + (S.map sumC).sum ≤ 2500) : Few S := fun l hl => by
  have h1 := sumS_mem hl
  exact ⟨by have := sum_len l; omega, fun x hx => cnt_small (by have := sum_mem hx; omega)⟩
/-- what lies in a row has the length that its parts have -/
theorem small_at {w : World} {B : Nat} {x : E} (h : RAt w B x.1 x.2) (hs : x.2.cx.length ≤ 1000000 ∧ x.2.val.length ≤ 1000000 ∧ x.2.sig.length ≤ 1000000) : Small x := by
  unfold Small
  rw [← h.l1, ← h.l2, ← h.l3]; exact hs
theorem at_small {w : World} {B : Nat} {x : E} (h : RAt w B x.1 x.2) (hs : Small x) : x.2.cx.length ≤ 1000000 ∧ x.2.val.length ≤ 1000000 ∧ x.2.sig.length ≤ 1000000 := by
  rw [h.l1, h.l2, h.l3]; exact hs
theorem joinO_sub {F : List R} {x : R} (h : x ∈ joinO F) : x ∈ F := by
  unfold joinO at h
  split at h
  · exact join_sub h
  · cases h
theorem joinO_rise (F : List R) : (joinO F).Pairwise (fun a b => lessD a b = true) := by
  unfold joinO
  split
  · exact join_rise F
  · exact List.Pairwise.nil
theorem joinO_over {F : List R} {x a : R} (hx : x ∈ joinO F) (ha : a ∈ joinO F) : overB a x = false := by
  unfold joinO at hx ha
  split at hx
  · rename_i h
    rw [if_pos h] at ha
    unfold overB
    rw [join_free hx ha]; simp
  · cases hx
theorem joinO_self {l m : List R} (h : setB l = true) (hm : ∀ x, x ∈ m ↔ x ∈ l) : alikeB m = true ∧ joinO m = l := by
  have ha := (set_of h).1
  have hm2 : alikeB m = true := by
    rw [alike_iff]
    intro r hr
    have hk : keyL m = keyL l := by
      cases m with
      | nil => cases hr
      | cons y m =>
        show y.key = _
        exact ((alike_iff l).1 ha y ((hm y).1 (by simp))).2
    rw [hk]
    exact (alike_iff l).1 ha r ((hm r).1 hr)
  exact ⟨hm2, by unfold joinO; rw [if_pos hm2]; exact join_self h hm⟩
/-- great of sets that have just been laid -/
theorem great_lits (w : World) (T : TypeId) (q : List (Option Addr × Nat × List E)) (m : Nat) (hm : q.length = m) (hm2 : m ≤ 1000000) (hq : ∀ x ∈ q, RRow w w.heap.size x.1 x.2.2 ∧ (x.1 = none → x.2.1 = 0)) (hl : ∀ x ∈ q, x.2.2.length < 9223372036854775808 ∧ ∀ y ∈ x.2.2, Fits y) :
    Calls Try.prog 6 #[.slice (some ⟨w.heap.size, 0, none⟩) m m] (w.alloc (.cells (q.map fun q => Value.slice q.1 q.2.2.length q.2.1).toArray T)) (fun e w' => ∃ b : Bool, e = .returned (.bool b) ∧ (b = false → Few (q.map (·.2.2))) ∧ w.grownBy w' none) :=
  (great_any m m (w.heap.size + 1) (q.map (·.2.2)) (some ⟨w.heap.size, 0, none⟩) _ (by simpa using hm) (srow_new w w.heap.size T q (Nat.le_refl _) hq) (by omega) (fun p hp => by
      obtain ⟨x, hx, rfl⟩ := List.mem_map.1 hp
      exact (hl x hx).1) (fun x hx => by
      obtain ⟨p, hp, hxp⟩ := List.mem_flatten.1 hx
      obtain ⟨y, hy, rfl⟩ := List.mem_map.1 hp
      exact (hl y hy).2 x hxp)).mono fun e w' ⟨b, he, hb, hg⟩ => ⟨b, he, fun h => few_of (hb h), gb_trans (gb_alloc (gb_refl _ _) _) hg⟩
theorem join2 (w : World) (a0 : Option Addr) (n0 c0 : Nat) (l0 : List E) (a1 : Option Addr) (n1 c1 : Nat) (l1 : List E) (h0 : l0.length = n0 ∧ n0 ≤ 100000 ∧ RRow w w.heap.size a0 l0 ∧ (a0 = none → c0 = 0) ∧ ∀ x ∈ l0, Small x) (h1 : l1.length = n1 ∧ n1 ≤ 100000 ∧ RRow w w.heap.size a1 l1 ∧ (a1 = none → c1 = 0) ∧ ∀ x ∈ l1, Small x) :
    Calls Try.prog 7 #[.slice (some ⟨w.heap.size, 0, none⟩) 2 2] (w.alloc (.cells #[.slice a0 n0 c0, .slice a1 n1 c1] 22)) (JoinRow w (recs (l0 ++ l1))) := by
  have hF : (([(a0, c0, l0), (a1, c1, l1)] : List (Option Addr × Nat × List E)).map (·.2.2)).flatten = (l0 ++ l1) := by simp
  have h := join_lits w 22 [(a0, c0, l0), (a1, c1, l1)] 2 rfl (by decide) (by
    intro x hx; simp only [List.mem_cons, List.not_mem_nil, or_false] at hx
    rcases hx with rfl | rfl
    · exact ⟨h0.2.2.1, h0.2.2.2.1⟩
    · exact ⟨h1.2.2.1, h1.2.2.2.1⟩) (by
    rw [hF]; simp only [List.length_append]; rw [h0.1, h1.1]
    have q0 := h0.2.1; have q1 := h1.2.1; omega) (by
    rw [hF]; intro x hx; simp only [List.mem_append] at hx
    rcases hx with hx | hx
    · exact h0.2.2.2.2 x hx
    · exact h1.2.2.2.2 x hx)
  rw [hF, show ([(a0, c0, l0), (a1, c1, l1)] : List (Option Addr × Nat × List E)).map (fun q => Value.slice q.1 q.2.2.length q.2.1) = [.slice a0 n0 c0, .slice a1 n1 c1] from by simp only [List.map_cons, List.map_nil]; rw [h0.1, h1.1]] at h
  exact h
theorem join3 (w : World) (a0 : Option Addr) (n0 c0 : Nat) (l0 : List E) (a1 : Option Addr) (n1 c1 : Nat) (l1 : List E) (a2 : Option Addr) (n2 c2 : Nat) (l2 : List E) (h0 : l0.length = n0 ∧ n0 ≤ 100000 ∧ RRow w w.heap.size a0 l0 ∧ (a0 = none → c0 = 0) ∧ ∀ x ∈ l0, Small x) (h1 : l1.length = n1 ∧ n1 ≤ 100000 ∧ RRow w w.heap.size a1 l1 ∧ (a1 = none → c1 = 0) ∧ ∀ x ∈ l1, Small x) (h2 : l2.length = n2 ∧ n2 ≤ 100000 ∧ RRow w w.heap.size a2 l2 ∧ (a2 = none → c2 = 0) ∧ ∀ x ∈ l2, Small x) :
    Calls Try.prog 7 #[.slice (some ⟨w.heap.size, 0, none⟩) 3 3] (w.alloc (.cells #[.slice a0 n0 c0, .slice a1 n1 c1, .slice a2 n2 c2] 22)) (JoinRow w (recs (l0 ++ l1 ++ l2))) := by
  have hF : (([(a0, c0, l0), (a1, c1, l1), (a2, c2, l2)] : List (Option Addr × Nat × List E)).map (·.2.2)).flatten = (l0 ++ l1 ++ l2) := by simp
  have h := join_lits w 22 [(a0, c0, l0), (a1, c1, l1), (a2, c2, l2)] 3 rfl (by decide) (by
    intro x hx; simp only [List.mem_cons, List.not_mem_nil, or_false] at hx
    rcases hx with rfl | rfl | rfl
    · exact ⟨h0.2.2.1, h0.2.2.2.1⟩
    · exact ⟨h1.2.2.1, h1.2.2.2.1⟩
    · exact ⟨h2.2.2.1, h2.2.2.2.1⟩) (by
    rw [hF]; simp only [List.length_append]; rw [h0.1, h1.1, h2.1]
    have q0 := h0.2.1; have q1 := h1.2.1; have q2 := h2.2.1; omega) (by
    rw [hF]; intro x hx; simp only [List.mem_append] at hx
    rcases hx with (hx | hx) | hx
    · exact h0.2.2.2.2 x hx
    · exact h1.2.2.2.2 x hx
    · exact h2.2.2.2.2 x hx)
  rw [hF, show ([(a0, c0, l0), (a1, c1, l1), (a2, c2, l2)] : List (Option Addr × Nat × List E)).map (fun q => Value.slice q.1 q.2.2.length q.2.1) = [.slice a0 n0 c0, .slice a1 n1 c1, .slice a2 n2 c2] from by simp only [List.map_cons, List.map_nil]; rw [h0.1, h1.1, h2.1]] at h
  exact h
/-- the records laid one row behind the other, as 'append(append([]api.Record{}, a...), b...)' lays them -/
theorem own_none (w : World) : ∀ c : Nat, c = 0 → OwnR (w.alloc (.cells #[] 34)) w.heap.size (.slice (some ⟨w.heap.size, 0, none⟩) 0 c) [] := fun c hc => by
  subst hc
  exact World.ownsRow_made w #[] _ (Nat.le_refl _) (by decide) rfl
end Sb
end Go.Proofs.Ytlkiancedgaicaa

/- Records among which over is transitive, without rounds, no dot twice: joined in steps they are what they are at once. -/
namespace Go.Proofs.Ytlkiancedgaicaa
open Wi Ve Rc
namespace Sb
structure Tame (l : List R) : Prop where
  dot : ∀ a ∈ l, ∀ b ∈ l, a.dot = b.dot → a = b
  round : ∀ a ∈ l, ∀ b ∈ l, overB a b = true → overB b a = false
  trans : ∀ a ∈ l, ∀ b ∈ l, ∀ c ∈ l, overB a b = true → overB b c = true → overB a c = true
theorem Tame.sub {l m : List R} (h : Tame l) (hs : ∀ x ∈ m, x ∈ l) : Tame m :=
  ⟨fun a ha b hb => h.dot a (hs a ha) b (hs b hb), fun a ha b hb => h.round a (hs a ha) b (hs b hb), fun a ha b hb c hc => h.trans a (hs a ha) b (hs b hb) c (hs c hc)⟩
theorem tame_mem {l : List R} (ha : alikeB l = true) (h : Tame l) (x : R) : x ∈ joinL l ↔ x ∈ l ∧ ∀ a ∈ l, overB a x = false := by
  obtain ⟨u, hu, e⟩ := uni_join l
  have hm : ∀ y, y ∈ u ↔ y ∈ l := fun y => ⟨hu.sub y, fun hy => by
    obtain ⟨z, hz, e1, _⟩ := hu.least y hy
    rw [← h.dot z (hu.sub z hz) y hy e1]; exact hz⟩
  rw [e, top_mem, hm]
  constructor
  · rintro ⟨h1, h2⟩
    refine ⟨h1, fun a hal => ?_⟩
    cases ho : overB a x with
    | false => rfl
    | true =>
      have : underB u x = true := (under_iff (alike_sub ha hu.sub) ((hm x).2 h1)).2 ⟨a, (hm a).2 hal, ho⟩
      rw [h2] at this; cases this
  · rintro ⟨h1, h2⟩
    refine ⟨h1, ?_⟩
    cases ho : underB u x with
    | false => rfl
    | true =>
      obtain ⟨a, ha1, ha2⟩ := (under_iff (alike_sub ha hu.sub) ((hm x).2 h1)).1 ho
      rw [h2 a ((hm a).1 ha1)] at ha2; cases ha2
theorem countP_lt {l : List R} {p q : R → Bool} (h : ∀ a ∈ l, p a = true → q a = true) {x : R} (hx : x ∈ l) (h1 : p x = false) (h2 : q x = true) : l.countP p < l.countP q := by
  induction l with
  | nil => cases hx
  | cons a l ih =>
    have hl : l.countP p ≤ l.countP q := List.countP_mono_left fun b hb => h b (List.mem_cons_of_mem _ hb)
    rw [List.countP_cons, List.countP_cons]
    rcases List.mem_cons.1 hx with rfl | hx
    · rw [h1, h2]; simp; omega
    · have := ih (fun b hb => h b (List.mem_cons_of_mem _ hb)) hx
      have ha := h a (List.mem_cons_self ..)
      cases hp : p a with
      | false => simp; omega
      | true => rw [ha hp]; simp; omega
theorem tame_top {l : List R} (ha : alikeB l = true) (h : Tame l) : ∀ (n : Nat) (x : R), x ∈ l → l.countP (fun a => overB a x) ≤ n → ∃ m ∈ joinL l, m = x ∨ overB m x = true := by
  intro n
  induction n with
  | zero =>
    intro x hx hc
    refine ⟨x, (tame_mem ha h x).2 ⟨hx, fun a hal => ?_⟩, Or.inl rfl⟩
    cases ho : overB a x with
    | false => rfl
    | true =>
      have := (List.countP_pos_iff (p := fun a => overB a x)).2 ⟨a, hal, ho⟩
      omega
  | succ n ih =>
    intro x hx hc
    by_cases hm : ∃ a ∈ l, overB a x = true
    · obtain ⟨a, hal, ho⟩ := hm
      have hlt : l.countP (fun b => overB b a) < l.countP (fun b => overB b x) :=
        countP_lt (fun b hb h1 => h.trans b hb a hal x hx h1 ho) hal (over_self a) ho
      obtain ⟨m, hm, e⟩ := ih a hal (by omega)
      refine ⟨m, hm, Or.inr ?_⟩
      rcases e with rfl | e
      · exact ho
      · exact h.trans m (join_sub hm) a hal x hx e ho
    · refine ⟨x, (tame_mem ha h x).2 ⟨hx, fun a hal => ?_⟩, Or.inl rfl⟩
      cases ho : overB a x with
      | false => rfl
      | true => exact absurd ⟨a, hal, ho⟩ hm
/-- joined in a step, and then with others -/
theorem join_step {l p c : List R} (ha : alikeB l = true) (h : Tame l) (hp : ∀ x ∈ p, x ∈ l) (hc : ∀ x ∈ c, x ∈ l) : joinL (joinL p ++ c) = joinL (p ++ c) := by
  have s1 : ∀ x ∈ joinL p ++ c, x ∈ l := fun x hx => (List.mem_append.1 hx).elim (fun h => hp x (join_sub h)) (hc x)
  have s2 : ∀ x ∈ p ++ c, x ∈ l := fun x hx => (List.mem_append.1 hx).elim (hp x) (hc x)
  have ap := alike_sub ha hp
  have tp := h.sub hp
  refine rise_ext (join_rise _) (join_rise _) fun x => ?_
  rw [tame_mem (alike_sub ha s1) (h.sub s1), tame_mem (alike_sub ha s2) (h.sub s2)]
  constructor
  · rintro ⟨h1, h2⟩
    have hx : x ∈ p ++ c := (List.mem_append.1 h1).elim (fun h => List.mem_append_left _ (join_sub h)) (List.mem_append_right _)
    refine ⟨hx, fun a hal => ?_⟩
    rcases List.mem_append.1 hal with hal | hal
    · obtain ⟨m, hm, e⟩ := tame_top ap tp _ a hal (Nat.le_refl _)
      cases ho : overB a x with
      | false => rfl
      | true =>
        have h3 := h2 m (List.mem_append_left _ hm)
        rcases e with rfl | e
        · rw [ho] at h3; cases h3
        · rw [h.trans m (hp m (join_sub hm)) a (hp a hal) x (s2 x hx) e ho] at h3; cases h3
    · exact h2 a (List.mem_append_right _ hal)
  · rintro ⟨h1, h2⟩
    refine ⟨?_, fun a hal => h2 a ((List.mem_append.1 hal).elim (fun h => List.mem_append_left _ (join_sub h)) (List.mem_append_right _))⟩
    rcases List.mem_append.1 h1 with h1 | h1
    · exact List.mem_append_left _ ((tame_mem ap tp x).2 ⟨h1, fun a hal => h2 a (List.mem_append_left _ hal)⟩)
    · exact List.mem_append_right _ h1
theorem alike_right {l : List R} (h : alikeB l = true) : ∀ x ∈ l, rightB x = true := fun x hx => ((alike_iff l).1 h x hx).1
theorem steps_left {a b c : List R} (ha : alikeB (a ++ b ++ c) = true) (h : Tame (a ++ b ++ c)) : joinL (joinL (a ++ b) ++ c) = joinL (a ++ b ++ c) :=
  join_step ha h (fun _ hx => List.mem_append_left _ hx) (fun _ hx => List.mem_append_right _ hx)
theorem steps_right {a b c : List R} (ha : alikeB (a ++ b ++ c) = true) (h : Tame (a ++ b ++ c)) : joinL (a ++ joinL (c ++ b)) = joinL (a ++ b ++ c) := by
  have h1 := join_step (p := c ++ b) (c := a) ha h (fun x hx => by simp only [List.mem_append] at *; rcases hx with h | h <;> simp [h]) (fun x hx => by simp [hx])
  have hs : ∀ x ∈ joinL (c ++ b) ++ a, x ∈ a ++ b ++ c := fun x hx => by
    rcases List.mem_append.1 hx with hx | hx
    · have := join_sub hx; simp only [List.mem_append] at *; rcases this with h | h <;> simp [h]
    · simp [hx]
  rw [join_congr (l := a ++ joinL (c ++ b)) (m := joinL (c ++ b) ++ a) (fun x hx => alike_right ha x (hs x (by simp only [List.mem_append] at *; exact hx.symm))) (fun x => by simp only [List.mem_append]; exact or_comm), h1]
  exact join_congr (fun x hx => alike_right ha x (by simp only [List.mem_append] at *; rcases hx with (h | h) | h <;> simp [h])) (fun x => by simp only [List.mem_append]; constructor <;> rintro ((h | h) | h) <;> simp [h])
theorem steps_again {l : List R} (ha : alikeB l = true) (h : Tame l) : joinL (joinL l ++ l) = joinL l := by
  rw [join_step ha h (fun _ hx => hx) (fun _ hx => hx)]
  exact join_congr (fun x hx => alike_right ha x (by simpa using hx)) (fun x => by simp)
theorem steps_turned {a b c : List R} (ha : alikeB (a ++ b ++ c) = true) : joinL (c ++ b ++ a) = joinL (a ++ b ++ c) :=
  join_congr (fun x hx => alike_right ha x (by simp only [List.mem_append] at *; rcases hx with (h | h) | h <;> simp [h])) (fun x => by simp only [List.mem_append]; constructor <;> rintro ((h | h) | h) <;> simp [h])
end Sb
end Go.Proofs.Ytlkiancedgaicaa

/- Rows of records that lie in memory, joined one behind the other: what SiblingSteps asks. -/
namespace Go.Proofs.Ytlkiancedgaicaa
open Go.RowKit Ow Wi Ve Rc
namespace Sb
theorem takeId_len (u : List R) (x : R) : (takeG id u x).length ≤ u.length + 1 := by
  unfold takeG
  split
  · simp
  · split
    · simp
    · split
      · rw [List.length_append, List.length_dropLast, List.length_singleton]; omega
      · omega
theorem uniId_len (p : List R) : (uniG id p).length ≤ p.length := by
  unfold uniG
  suffices h : ∀ (p u : List R), (p.foldl (takeG id) u).length ≤ u.length + p.length from by simpa using h p []
  intro p
  induction p with
  | nil => intro u; simp
  | cons x p ih =>
    intro u
    have h1 := ih (takeG id u x)
    have h2 := takeId_len u x
    rw [List.foldl_cons, List.length_cons]; omega
theorem joinL_len (l : List R) : (joinL l).length ≤ l.length := by
  unfold joinL topF
  have h := uniId_len (l.mergeSort fun a b => !lessD b a)
  rw [List.length_mergeSort] at h
  exact Nat.le_trans (List.length_filter_le _ _) h
/-- a row that lies in memory -/
structure J (w : World) (a : Option Addr) (n c : Nat) (l : List E) : Prop where
  len : l.length = n
  le : n ≤ 100000
  row : RRow w w.heap.size a l
  cap : a = none → c = 0
  small : ∀ x ∈ l, Small x
theorem J.stay {w w' : World} {a : Option Addr} {n c : Nat} {l : List E} (h : J w a n c l) (hg : w.grownBy w' none) : J w' a n c l := ⟨h.len, h.le, (h.row.stay hg).full, h.cap, h.small⟩
abbrev Rw := Option Addr × Nat × Nat × List E
/-- the rows that lie in memory -/
def Env (W w : World) (L : List Rw) : Prop := W.grownBy w none ∧ ∀ p ∈ L, J w p.1 p.2.1 p.2.2.1 p.2.2.2
section
variable {W w w' : World} {L : List Rw}
theorem Env.stay (h : Env W w L) (hg : w.grownBy w' none) : Env W w' L := ⟨gb_trans h.1 hg, fun p hp => (h.2 p hp).stay hg⟩
theorem Env.at (h : Env W w L) {a : Option Addr} {n c : Nat} {l : List E} (hm : (a, n, c, l) ∈ L) : J w a n c l := h.2 _ hm
theorem Env.add (h : Env W w L) {a : Option Addr} {n c : Nat} {l : List E} (hj : J w a n c l) : Env W w ((a, n, c, l) :: L) := ⟨h.1, fun p hp => by
  rcases List.mem_cons.1 hp with rfl | hp
  · exact hj
  · exact h.2 p hp⟩
def Joins (W : World) (L : List Rw) (F : List E) (e : Ending) (w' : World) : Prop := ∃ a n c out, e = .returned (.tuple #[.slice a n c, .int .i64 0]) ∧ recs out = joinL (recs F) ∧ n ≤ F.length ∧ Env W w' ((a, n, c, out) :: L)
theorem env_out (h : Env W w L) {F : List E} {e : Ending} (hF : ∀ x ∈ F, Small x ∧ RAt w w.heap.size x.1 x.2) (ha : alikeB (recs F) = true) (hl : F.length ≤ 100000) (ho : JoinRow w (recs F) e w') : Joins W L F e w' := by
  obtain ⟨a, c, out, rfl, hro, hrow, hz, hsz, hg⟩ := ho
  have hr2 : recs out = joinL (recs F) := by rw [hro]; unfold joinO; rw [if_pos ha]
  have hlen : out.length ≤ F.length := by
    have := joinL_len (recs F)
    rw [← hr2, recs_len, recs_len] at this; exact this
  refine ⟨a, out.length, c, out, by rw [ha, recs_len]; rfl, hr2, hlen, (h.stay hg).add ⟨rfl, by omega, hrow, hz, fun x hx => ?_⟩⟩
  have hm : x.2 ∈ recs F := join_sub (by rw [← hr2]; exact List.mem_map.2 ⟨x, hx, rfl⟩)
  obtain ⟨y, hy, e2⟩ := List.mem_map.1 hm
  have h3 := at_small (hF y hy).2 (hF y hy).1
  rw [e2] at h3
  exact small_at (hrow.recs x hx) h3
theorem J.all {a : Option Addr} {n c : Nat} {l : List E} (h : J w a n c l) : ∀ x ∈ l, Small x ∧ RAt w w.heap.size x.1 x.2 := fun x hx => ⟨h.small x hx, h.row.recs x hx⟩
theorem env_join2 (h : Env W w L) (a0 : Option Addr) (n0 c0 : Nat) (l0 : List E) (a1 : Option Addr) (n1 c1 : Nat) (l1 : List E) (m0 : (a0, n0, c0, l0) ∈ L) (m1 : (a1, n1, c1, l1) ∈ L) (ha : alikeB (recs (l0 ++ l1)) = true) (hl : n0 + n1 ≤ 100000) :
    Calls Try.prog 7 #[.slice (some ⟨w.heap.size, 0, none⟩) 2 2] (w.alloc (.cells #[.slice a0 n0 c0, .slice a1 n1 c1] 22)) (Joins W L (l0 ++ l1)) := by
  have j0 := h.at m0
  have j1 := h.at m1
  refine (join2 w a0 n0 c0 l0 a1 n1 c1 l1 ⟨j0.len, j0.le, j0.row, j0.cap, j0.small⟩ ⟨j1.len, j1.le, j1.row, j1.cap, j1.small⟩).mono fun e w' ho => env_out h ?_ ha ?_ ho
  · intro x hx
    rcases List.mem_append.1 hx with hx | hx
    · exact j0.all x hx
    · exact j1.all x hx
  · rw [List.length_append, j0.len, j1.len]; exact hl
theorem env_all3 (h : Env W w L) {a0 : Option Addr} {n0 c0 : Nat} {l0 : List E} {a1 : Option Addr} {n1 c1 : Nat} {l1 : List E} {a2 : Option Addr} {n2 c2 : Nat} {l2 : List E} (m0 : (a0, n0, c0, l0) ∈ L) (m1 : (a1, n1, c1, l1) ∈ L) (m2 : (a2, n2, c2, l2) ∈ L) : ∀ x ∈ l0 ++ l1 ++ l2, Small x ∧ RAt w w.heap.size x.1 x.2 := by
  intro x hx
  rcases List.mem_append.1 hx with hx | hx
  · rcases List.mem_append.1 hx with hx | hx
    · exact (h.at m0).all x hx
    · exact (h.at m1).all x hx
  · exact (h.at m2).all x hx
theorem env_row3 (h : Env W w L) (a0 : Option Addr) (n0 c0 : Nat) (l0 : List E) (a1 : Option Addr) (n1 c1 : Nat) (l1 : List E) (a2 : Option Addr) (n2 c2 : Nat) (l2 : List E) (m0 : (a0, n0, c0, l0) ∈ L) (m1 : (a1, n1, c1, l1) ∈ L) (m2 : (a2, n2, c2, l2) ∈ L) :
    Calls Try.prog 7 #[.slice (some ⟨w.heap.size, 0, none⟩) 3 3] (w.alloc (.cells #[.slice a0 n0 c0, .slice a1 n1 c1, .slice a2 n2 c2] 22)) (JoinRow w (recs (l0 ++ l1 ++ l2))) := by
  have j0 := h.at m0
  have j1 := h.at m1
  have j2 := h.at m2
  exact join3 w a0 n0 c0 l0 a1 n1 c1 l1 a2 n2 c2 l2 ⟨j0.len, j0.le, j0.row, j0.cap, j0.small⟩ ⟨j1.len, j1.le, j1.row, j1.cap, j1.small⟩ ⟨j2.len, j2.le, j2.row, j2.cap, j2.small⟩
theorem env_join3 (h : Env W w L) (a0 : Option Addr) (n0 c0 : Nat) (l0 : List E) (a1 : Option Addr) (n1 c1 : Nat) (l1 : List E) (a2 : Option Addr) (n2 c2 : Nat) (l2 : List E) (m0 : (a0, n0, c0, l0) ∈ L) (m1 : (a1, n1, c1, l1) ∈ L) (m2 : (a2, n2, c2, l2) ∈ L) (ha : alikeB (recs (l0 ++ l1 ++ l2)) = true) (hl : n0 + n1 + n2 ≤ 100000) :
    Calls Try.prog 7 #[.slice (some ⟨w.heap.size, 0, none⟩) 3 3] (w.alloc (.cells #[.slice a0 n0 c0, .slice a1 n1 c1, .slice a2 n2 c2] 22)) (Joins W L (l0 ++ l1 ++ l2)) :=
  (env_row3 h a0 n0 c0 l0 a1 n1 c1 l1 a2 n2 c2 l2 m0 m1 m2).mono fun e w' ho => env_out h (env_all3 h m0 m1 m2) ha (by rw [List.length_append, List.length_append, (h.at m0).len, (h.at m1).len, (h.at m2).len]; exact hl) ho
theorem env_same (h : Env W w L) (a0 : Option Addr) (n0 c0 : Nat) (l0 : List E) (a1 : Option Addr) (n1 c1 : Nat) (l1 : List E) (m0 : (a0, n0, c0, l0) ∈ L) (m1 : (a1, n1, c1, l1) ∈ L) (he : recs l0 = recs l1) :
    Calls Try.prog 8 #[.slice a0 n0 c0, .slice a1 n1 c1] w fun e w' => e = .returned (.bool true) ∧ Env W w' L := by
  have j0 := h.at m0
  have j1 := h.at m1
  have hs := sameRecs_any w.heap.size w.heap.size n0 n1 c0 c1 a0 a1 l0 l1 w j0.len j1.len j0.row j1.row (by have := j0.le; omega)
  rw [he, show sameL (recs l1) (recs l1) = true from decide_eq_true rfl] at hs
  exact hs.mono fun e w' ⟨h1, h2⟩ => ⟨h1, h.stay h2⟩
theorem env_right (h : Env W w L) (a0 : Option Addr) (n0 c0 : Nat) (l0 : List E) (m0 : (a0, n0, c0, l0) ∈ L) (hs : setB (recs l0) = true) :
    Calls Try.prog 9 #[.slice a0 n0 c0] w fun e w' => e = .returned (.bool true) ∧ Env W w' L := by
  have j0 := h.at m0
  have hr := sright_any w.heap.size n0 c0 a0 l0 w j0.len j0.row (by have := j0.le; omega)
  rw [hs] at hr
  exact hr.mono fun e w' ⟨h1, h2⟩ => ⟨h1, h.stay h2⟩
end
theorem own_cap {w : World} {base : Nat} {a : Option Addr} {n c : Nat} {l : List E} (h : OwnR w base (.slice a n c) l) : a = none → c = 0 := by
  rcases h.2 with ⟨e, _⟩ | ⟨g, c', cur, e, _⟩
  · simp only [Value.slice.injEq] at e
    exact fun _ => e.2.2
  · simp only [Value.slice.injEq] at e
    intro h0; rw [h0] at e; cases e.1
/-- of tame records each has one that is left over it, or is left -/
theorem left_over {F l : List E} (ha : alikeB (recs F) = true) (ht : Tame (recs F)) (hl : recs l = joinL (recs F)) {k : Nat} (hk : k < F.length) (hn : ∀ i, i < l.length → overB (l.getD i e0).2 (F.getD k e0).2 = false ∧ sameB (l.getD i e0).2 (F.getD k e0).2 = false) : False := by
  have hm : (F.getD k e0).2 ∈ recs F := List.mem_map.2 ⟨_, getD_mem hk, rfl⟩
  obtain ⟨r, hr, h⟩ := tame_top ha ht _ _ hm (Nat.le_refl _)
  rw [← hl] at hr
  obtain ⟨y, hy, rfl⟩ := List.mem_map.1 hr
  obtain ⟨i, hi, rfl⟩ := List.getElem_of_mem hy
  have e : l.getD i e0 = l[i] := by rw [List.getD_eq_getElem?_getD, List.getElem?_eq_getElem hi]; rfl
  obtain ⟨h1, h2⟩ := hn i hi
  rw [e] at h1 h2
  rcases h with h | h
  · rw [(sameB_iff _ _).2 h] at h2; cases h2
  · rw [h] at h1; cases h1
theorem recs_app (l m : List E) : recs (l ++ m) = recs l ++ recs m := List.map_append
end Sb
end Go.Proofs.Ytlkiancedgaicaa

/- record.Over: who is over whom. (Printed by gen_rcover.py.) -/
namespace Go.Proofs.Ytlkiancedgaicaa
open Go.RowKit Ow Wi Ve
namespace Rc
set_option maxHeartbeats 4000000 in
set_option maxRecDepth 100000 in
theorem rover_any (ra rb : R) (B1 B2 : Nat) (w : World) (qa qb : L) (ha : RAt w B1 qa ra) (hb : RAt w B2 qb rb) : Calls Try.prog 11 #[qa.v ra, qb.v rb] w fun e w' => e = .returned (.bool (overB ra rb)) ∧ w.grownBy w' none := by
  have HX := Lib.hid (fun w' (hg : w.grownBy w' none) => shaped_any (shapeB ra) ra B1 w' qa (ha.stay hg) rfl)
  have HY := Lib.hid (fun w' (hg : w.grownBy w' none) => shaped_any (shapeB rb) rb B2 w' qb (hb.stay hg) rfl)
  have HH := Lib.hid (fun w' (hg : w.grownBy w' none) => has_any B1 qa.n1 qa.c1 qa.a1 ra.cx rb.cl rb.sq w' ha.l1 (ha.dots.stay hg) ha.top)
  have hz := str_eq qa.s qb.s
  rw [ha.str, hb.str] at hz
  obtain ⟨o, ho⟩ : ∃ o, o = overB ra rb := ⟨_, rfl⟩
  rw [← ho]
  have ho' : o = (shapeB ra && shapeB rb && decide (ra.key = rb.key) && hasB ra.cx (rb.cl, rb.sq)) := ho
  rw [← hz] at ho'
  clear ha hb hz ho
  generalize hasB ra.cx (rb.cl, rb.sq) = t at *
  generalize shapeB ra = x at *
  generalize shapeB rb = y at *
  obtain ⟨s, a1, n1, c1, a2, n2, c2, a3, n3, c3⟩ := qa
  obtain ⟨key, cl, sq, cx, g, val, sig⟩ := ra
  obtain ⟨s', a1', n1', c1', a2', n2', c2', a3', n3', c3'⟩ := qb
  obtain ⟨key', cl', sq', cx', g', val', sig'⟩ := rb
  replace HX : Hid (∀ w' (_ : w.grownBy w' none), Calls Try.prog 22 #[vV s cl sq a1 n1 c1 g a2 n2 c2 a3 n3 c3] w' fun e w'' => e = .returned (.bool x) ∧ w'.grownBy w'' none) := HX
  replace HY : Hid (∀ w' (_ : w.grownBy w' none), Calls Try.prog 22 #[vV s' cl' sq' a1' n1' c1' g' a2' n2' c2' a3' n3' c3'] w' fun e w'' => e = .returned (.bool y) ∧ w'.grownBy w'' none) := HY
  replace HH : Hid (∀ w' (_ : w.grownBy w' none), Calls Try.prog 23 #[.slice a1 n1 c1, .agg #[iV cl', iV sq']] w' fun e w'' => e = .returned (.bool t) ∧ w'.grownBy w'' none) := HH
  simp only at ho'
  obtain ⟨z, hz⟩ : ∃ z, (s.toList == s'.toList) = z := ⟨_, rfl⟩
  rw [hz] at ho'
  have HZ := Lib.hid hz; clear hz
  have HO := Lib.hid ho'; clear ho'
  show Calls _ _ #[vV s cl sq a1 n1 c1 g a2 n2 c2 a3 n3 c3, vV s' cl' sq' a1' n1' c1' g' a2' n2' c2' a3' n3' c3'] w _
  go_enter Try.func11, Try.ntmps11
  go_upto_region 1 with fail
  go_region
  focus
    obtain ⟨M1, hM1⟩ : ∃ M, M = w.heap.size + 1 + 1 := ⟨_, rfl⟩
    obtain ⟨M2, hM2⟩ : ∃ M, M = w.heap.size + 1 + 1 + 1 := ⟨_, rfl⟩
    obtain ⟨W0, hW0⟩ : ∃ W0, W0 = ((((w.alloc (.cells #[.string s, iV cl, iV sq, .slice a1 n1 c1, .bool g, .slice a2 n2 c2, .slice a3 n3 c3] 34)).alloc (.cells #[.string s', iV cl', iV sq', .slice a1' n1' c1', .bool g', .slice a2' n2' c2', .slice a3' n3' c3'] 34)).alloc (.cells #[.string s, iV cl, iV sq, .slice a1 n1 c1, .bool g, .slice a2 n2 c2, .slice a3 n3 c3] 50)).alloc (.cells #[.string s', iV cl', iV sq', .slice a1' n1' c1', .bool g', .slice a2' n2' c2', .slice a3' n3' c3'] 50)).drew := ⟨_, rfl⟩
    have hG0 : w.grownBy W0 none := by rw [hW0]; exact gb_drew (gb_alloc (gb_alloc (gb_alloc (gb_alloc (gb_refl _ _) _) _) _) _)
    have hP0 : Blk W0 M1 50 [.string s, iV cl, iV sq, .slice a1 n1 c1, .bool g, .slice a2 n2 c2, .slice a3 n3 c3] := by rw [hW0, hM1]; exact ((blk_at _ [.string s, iV cl, iV sq, .slice a1 n1 c1, .bool g, .slice a2 n2 c2, .slice a3 n3 c3] 50 (by simp)).alloc _).drew
    have hP1 : Blk W0 M2 50 [.string s', iV cl', iV sq', .slice a1' n1' c1', .bool g', .slice a2' n2' c2', .slice a3' n3' c3'] := by rw [hW0, hM2]; exact (blk_at _ [.string s', iV cl', iV sq', .slice a1' n1' c1', .bool g', .slice a2' n2' c2', .slice a3' n3' c3'] 50 (by simp)).drew
    rw [← hW0, ← hM2, ← hM1]
  rotate_left
  focus
    obtain ⟨M2, hM2⟩ : ∃ M, M = w.heap.size + 1 + 1 := ⟨_, rfl⟩
    obtain ⟨M1, hM1⟩ : ∃ M, M = w.heap.size + 1 + 1 + 1 := ⟨_, rfl⟩
    obtain ⟨W0, hW0⟩ : ∃ W0, W0 = ((((w.alloc (.cells #[.string s, iV cl, iV sq, .slice a1 n1 c1, .bool g, .slice a2 n2 c2, .slice a3 n3 c3] 34)).alloc (.cells #[.string s', iV cl', iV sq', .slice a1' n1' c1', .bool g', .slice a2' n2' c2', .slice a3' n3' c3'] 34)).alloc (.cells #[.string s', iV cl', iV sq', .slice a1' n1' c1', .bool g', .slice a2' n2' c2', .slice a3' n3' c3'] 50)).alloc (.cells #[.string s, iV cl, iV sq, .slice a1 n1 c1, .bool g, .slice a2 n2 c2, .slice a3 n3 c3] 50)).drew := ⟨_, rfl⟩
    have hG0 : w.grownBy W0 none := by rw [hW0]; exact gb_drew (gb_alloc (gb_alloc (gb_alloc (gb_alloc (gb_refl _ _) _) _) _) _)
    have hP1 : Blk W0 M2 50 [.string s', iV cl', iV sq', .slice a1' n1' c1', .bool g', .slice a2' n2' c2', .slice a3' n3' c3'] := by rw [hW0, hM2]; exact ((blk_at _ [.string s', iV cl', iV sq', .slice a1' n1' c1', .bool g', .slice a2' n2' c2', .slice a3' n3' c3'] 50 (by simp)).alloc _).drew
    have hP0 : Blk W0 M1 50 [.string s, iV cl, iV sq, .slice a1 n1 c1, .bool g, .slice a2 n2 c2, .slice a3 n3 c3] := by rw [hW0, hM1]; exact (blk_at _ [.string s, iV cl, iV sq, .slice a1 n1 c1, .bool g, .slice a2 n2 c2, .slice a3 n3 c3] 50 (by simp)).drew
    rw [← hW0, ← hM1, ← hM2]
  all_goals
    have HG0 := Lib.hid (And.intro hG0 (And.intro hP0 hP1)); clear hG0 hP0 hP1 hW0 hM1 hM2
    go_upto_region 2 with fail
    cases x with
    | false =>
      refine Fg.region_t [] [.any, .any, .any, .any, .val (Value.bool false), .any, .any, .any, .any, .any, .any, .val (vV s cl sq a1 n1 c1 g a2 n2 c2 a3 n3 c3), .val (Value.bool false), .val (Value.bool false), .val undef, .val undef, .val (Value.bool false), .val (Value.bool false), .val undef, .val undef, .val undef, .val undef, .val undef, .val undef, .val undef, .val (Value.bool false), .val (Value.bool false), .val undef, .val undef, .val undef, .val undef, .val undef, .val undef, .val (Value.bool false)] W0 24 (gb_refl _ _) (by kernel_rfl) (by kernel_rfl) (by kernel_rfl) (by kernel_rfl) (by decide) (by kernel_rfl) ?_ ?_
      · refine ⟨Fg.vT rfl (by decide) fun ac w h => ?_, ?_⟩
        · have e5 : ac.tmps.getD 5 undef = Value.pointer (some ⟨M1, 0, none⟩) := h.rest 5 (by kernel_rfl)
          have hb1 := HG0.out.2.1.grown h.base (by simp)
          have m0 := hb1.cell (i := 0) rfl
          have m1 := hb1.cell (i := 1) rfl
          have m2 := hb1.cell (i := 2) rfl
          have m3 := hb1.cell (i := 3) rfl
          have m4 := hb1.cell (i := 4) rfl
          have m5 := hb1.cell (i := 5) rfl
          have m6 := hb1.cell (i := 6) rfl
          refine ⟨vV s cl sq a1 n1 c1 g a2 n2 c2 a3 n3 c3, w, wants_none rfl, ?_, gb_refl _ _, rfl⟩
          clear h
          simp only [execOp, Act.eval, e5]
          go_simp
        refine ⟨Fg.cT rfl (by decide) fun ac w h => ?_, ?_⟩
        · have e11 : ac.tmps.getD 11 undef = vV s cl sq a1 n1 c1 g a2 n2 c2 a3 n3 c3 := h.dep 11 (by kernel_rfl)
          refine ⟨22, #[vV s cl sq a1 n1 c1 g a2 n2 c2 a3 n3 c3], wants_none rfl, Fg.run_call rfl rfl (by simp only [List.map_toArray, List.map_cons, List.map_nil, Act.eval, e11]) (Fg.run_enter Try.func22 (by kernel_rfl) (by kernel_rfl)), ?_⟩
          exact (HX.out w (gb_trans HG0.out.1 h.base)).mono fun _ _ ⟨he, hg⟩ => ⟨_, he, hg, rfl⟩
        refine ⟨Fg.vT rfl (by decide) fun ac w h => ?_, ?_⟩
        · have e12 : ac.tmps.getD 12 undef = Value.bool false := h.dep 12 (by kernel_rfl)
          exact ⟨_, w, wants_none rfl, Fg.run_move rfl e12, gb_refl _ _, rfl⟩
        refine ⟨Fg.sT rfl (by decide) (fun _ => rfl) fun ac w h => ?_, ?_⟩
        · have e13 : ac.tmps.getD 13 undef = Value.bool false := h.dep 13 (by kernel_rfl)
          exact not_wants (d := 13) rfl rfl (by rw [h.size]; show 13 < 34; decide) e13 (by decide)
        refine ⟨Fg.sT rfl (by decide) (fun _ => rfl) fun ac w h => ?_, ?_⟩
        · have e13 : ac.tmps.getD 13 undef = Value.bool false := h.dep 13 (by kernel_rfl)
          exact not_wants (d := 13) rfl rfl (by rw [h.size]; show 13 < 34; decide) e13 (by decide)
        refine ⟨Fg.vT rfl (by decide) fun ac w h => ?_, ?_⟩
        · have e13 : ac.tmps.getD 13 undef = Value.bool false := h.dep 13 (by kernel_rfl)
          refine ⟨Value.bool false, w, wants_none rfl, ?_, gb_refl _ _, rfl⟩
          clear h
          simp only [execOp, Act.eval, e13]
          go_simp
        refine ⟨Fg.vT rfl (by decide) fun ac w h => ?_, ?_⟩
        · have e16 : ac.tmps.getD 16 undef = Value.bool false := h.dep 16 (by kernel_rfl)
          exact ⟨_, w, wants_none rfl, Fg.run_move rfl e16, gb_refl _ _, rfl⟩
        refine ⟨Fg.sT rfl (by decide) (fun _ => rfl) fun ac w h => ?_, ?_⟩
        · have e17 : ac.tmps.getD 17 undef = Value.bool false := h.dep 17 (by kernel_rfl)
          exact not_wants (d := 17) rfl rfl (by rw [h.size]; show 17 < 34; decide) e17 (by decide)
        refine ⟨Fg.sT rfl (by decide) (fun _ => rfl) fun ac w h => ?_, ?_⟩
        · have e17 : ac.tmps.getD 17 undef = Value.bool false := h.dep 17 (by kernel_rfl)
          exact not_wants (d := 17) rfl rfl (by rw [h.size]; show 17 < 34; decide) e17 (by decide)
        refine ⟨Fg.sT rfl (by decide) (fun _ => rfl) fun ac w h => ?_, ?_⟩
        · have e17 : ac.tmps.getD 17 undef = Value.bool false := h.dep 17 (by kernel_rfl)
          exact not_wants (d := 17) rfl rfl (by rw [h.size]; show 17 < 34; decide) e17 (by decide)
        refine ⟨Fg.sT rfl (by decide) (fun _ => rfl) fun ac w h => ?_, ?_⟩
        · have e17 : ac.tmps.getD 17 undef = Value.bool false := h.dep 17 (by kernel_rfl)
          exact not_wants (d := 17) rfl rfl (by rw [h.size]; show 17 < 34; decide) e17 (by decide)
        refine ⟨Fg.sT rfl (by decide) (fun _ => rfl) fun ac w h => ?_, ?_⟩
        · have e17 : ac.tmps.getD 17 undef = Value.bool false := h.dep 17 (by kernel_rfl)
          exact not_wants (d := 17) rfl rfl (by rw [h.size]; show 17 < 34; decide) e17 (by decide)
        refine ⟨Fg.sT rfl (by decide) (fun _ => rfl) fun ac w h => ?_, ?_⟩
        · have e17 : ac.tmps.getD 17 undef = Value.bool false := h.dep 17 (by kernel_rfl)
          exact not_wants (d := 17) rfl rfl (by rw [h.size]; show 17 < 34; decide) e17 (by decide)
        refine ⟨Fg.sT rfl (by decide) (fun _ => rfl) fun ac w h => ?_, ?_⟩
        · have e17 : ac.tmps.getD 17 undef = Value.bool false := h.dep 17 (by kernel_rfl)
          exact not_wants (d := 17) rfl rfl (by rw [h.size]; show 17 < 34; decide) e17 (by decide)
        refine ⟨Fg.vT rfl (by decide) fun ac w h => ?_, ?_⟩
        · have e17 : ac.tmps.getD 17 undef = Value.bool false := h.dep 17 (by kernel_rfl)
          refine ⟨Value.bool false, w, wants_none rfl, ?_, gb_refl _ _, rfl⟩
          clear h
          simp only [execOp, Act.eval, e17]
          go_simp
        refine ⟨Fg.vT rfl (by decide) fun ac w h => ?_, ?_⟩
        · have e25 : ac.tmps.getD 25 undef = Value.bool false := h.dep 25 (by kernel_rfl)
          exact ⟨_, w, wants_none rfl, Fg.run_move rfl e25, gb_refl _ _, rfl⟩
        refine ⟨Fg.sT rfl (by decide) (fun _ => rfl) fun ac w h => ?_, ?_⟩
        · have e26 : ac.tmps.getD 26 undef = Value.bool false := h.dep 26 (by kernel_rfl)
          exact not_wants (d := 26) rfl rfl (by rw [h.size]; show 26 < 34; decide) e26 (by decide)
        refine ⟨Fg.sT rfl (by decide) (fun _ => rfl) fun ac w h => ?_, ?_⟩
        · have e26 : ac.tmps.getD 26 undef = Value.bool false := h.dep 26 (by kernel_rfl)
          exact not_wants (d := 26) rfl rfl (by rw [h.size]; show 26 < 34; decide) e26 (by decide)
        refine ⟨Fg.sT rfl (by decide) (fun _ => rfl) fun ac w h => ?_, ?_⟩
        · have e26 : ac.tmps.getD 26 undef = Value.bool false := h.dep 26 (by kernel_rfl)
          exact not_wants (d := 26) rfl rfl (by rw [h.size]; show 26 < 34; decide) e26 (by decide)
        refine ⟨Fg.sT rfl (by decide) (fun _ => rfl) fun ac w h => ?_, ?_⟩
        · have e26 : ac.tmps.getD 26 undef = Value.bool false := h.dep 26 (by kernel_rfl)
          exact not_wants (d := 26) rfl rfl (by rw [h.size]; show 26 < 34; decide) e26 (by decide)
        refine ⟨Fg.sT rfl (by decide) (fun _ => rfl) fun ac w h => ?_, ?_⟩
        · have e26 : ac.tmps.getD 26 undef = Value.bool false := h.dep 26 (by kernel_rfl)
          exact not_wants (d := 26) rfl rfl (by rw [h.size]; show 26 < 34; decide) e26 (by decide)
        refine ⟨Fg.sT rfl (by decide) (fun _ => rfl) fun ac w h => ?_, ?_⟩
        · have e26 : ac.tmps.getD 26 undef = Value.bool false := h.dep 26 (by kernel_rfl)
          exact not_wants (d := 26) rfl rfl (by rw [h.size]; show 26 < 34; decide) e26 (by decide)
        refine ⟨Fg.vT rfl (by decide) fun ac w h => ?_, ?_⟩
        · have e26 : ac.tmps.getD 26 undef = Value.bool false := h.dep 26 (by kernel_rfl)
          refine ⟨Value.bool false, w, wants_none rfl, ?_, gb_refl _ _, rfl⟩
          clear h
          simp only [execOp, Act.eval, e26]
          go_simp
        refine ⟨Fg.vT rfl (by decide) fun ac w h => ?_, ?_⟩
        · have e33 : ac.tmps.getD 33 undef = Value.bool false := h.dep 33 (by kernel_rfl)
          exact ⟨_, w, wants_none rfl, Fg.run_assign rfl e33, gb_refl _ _, rfl⟩
        trivial
      · intro aq wq hB hsz hdf hrest hslots hpt
        obtain ⟨u0, e0⟩ : ∃ u, aq.tmps.getD 0 undef = u := ⟨_, rfl⟩
        obtain ⟨u1, e1⟩ : ∃ u, aq.tmps.getD 1 undef = u := ⟨_, rfl⟩
        obtain ⟨u2, e2⟩ : ∃ u, aq.tmps.getD 2 undef = u := ⟨_, rfl⟩
        obtain ⟨u3, e3⟩ : ∃ u, aq.tmps.getD 3 undef = u := ⟨_, rfl⟩
        have e4 : aq.tmps.getD 4 undef = Value.bool false := hslots 4 (by kernel_rfl)
        obtain ⟨u5, e5⟩ : ∃ u, aq.tmps.getD 5 undef = u := ⟨_, rfl⟩
        obtain ⟨u6, e6⟩ : ∃ u, aq.tmps.getD 6 undef = u := ⟨_, rfl⟩
        obtain ⟨u7, e7⟩ : ∃ u, aq.tmps.getD 7 undef = u := ⟨_, rfl⟩
        obtain ⟨u8, e8⟩ : ∃ u, aq.tmps.getD 8 undef = u := ⟨_, rfl⟩
        obtain ⟨u9, e9⟩ : ∃ u, aq.tmps.getD 9 undef = u := ⟨_, rfl⟩
        obtain ⟨u10, e10⟩ : ∃ u, aq.tmps.getD 10 undef = u := ⟨_, rfl⟩
        obtain ⟨u11, e11⟩ : ∃ u, aq.tmps.getD 11 undef = u := ⟨_, rfl⟩
        obtain ⟨u12, e12⟩ : ∃ u, aq.tmps.getD 12 undef = u := ⟨_, rfl⟩
        obtain ⟨u13, e13⟩ : ∃ u, aq.tmps.getD 13 undef = u := ⟨_, rfl⟩
        obtain ⟨u14, e14⟩ : ∃ u, aq.tmps.getD 14 undef = u := ⟨_, rfl⟩
        obtain ⟨u15, e15⟩ : ∃ u, aq.tmps.getD 15 undef = u := ⟨_, rfl⟩
        obtain ⟨u16, e16⟩ : ∃ u, aq.tmps.getD 16 undef = u := ⟨_, rfl⟩
        obtain ⟨u17, e17⟩ : ∃ u, aq.tmps.getD 17 undef = u := ⟨_, rfl⟩
        obtain ⟨u18, e18⟩ : ∃ u, aq.tmps.getD 18 undef = u := ⟨_, rfl⟩
        obtain ⟨u19, e19⟩ : ∃ u, aq.tmps.getD 19 undef = u := ⟨_, rfl⟩
        obtain ⟨u20, e20⟩ : ∃ u, aq.tmps.getD 20 undef = u := ⟨_, rfl⟩
        obtain ⟨u21, e21⟩ : ∃ u, aq.tmps.getD 21 undef = u := ⟨_, rfl⟩
        obtain ⟨u22, e22⟩ : ∃ u, aq.tmps.getD 22 undef = u := ⟨_, rfl⟩
        obtain ⟨u23, e23⟩ : ∃ u, aq.tmps.getD 23 undef = u := ⟨_, rfl⟩
        obtain ⟨u24, e24⟩ : ∃ u, aq.tmps.getD 24 undef = u := ⟨_, rfl⟩
        obtain ⟨u25, e25⟩ : ∃ u, aq.tmps.getD 25 undef = u := ⟨_, rfl⟩
        obtain ⟨u26, e26⟩ : ∃ u, aq.tmps.getD 26 undef = u := ⟨_, rfl⟩
        obtain ⟨u27, e27⟩ : ∃ u, aq.tmps.getD 27 undef = u := ⟨_, rfl⟩
        obtain ⟨u28, e28⟩ : ∃ u, aq.tmps.getD 28 undef = u := ⟨_, rfl⟩
        obtain ⟨u29, e29⟩ : ∃ u, aq.tmps.getD 29 undef = u := ⟨_, rfl⟩
        obtain ⟨u30, e30⟩ : ∃ u, aq.tmps.getD 30 undef = u := ⟨_, rfl⟩
        obtain ⟨u31, e31⟩ : ∃ u, aq.tmps.getD 31 undef = u := ⟨_, rfl⟩
        obtain ⟨u32, e32⟩ : ∃ u, aq.tmps.getD 32 undef = u := ⟨_, rfl⟩
        obtain ⟨u33, e33⟩ : ∃ u, aq.tmps.getD 33 undef = u := ⟨_, rfl⟩
        obtain rfl := Fg.frame_is (a := aq) (vs := [u0, u1, u2, u3, Value.bool false, u5, u6, u7, u8, u9, u10, u11, u12, u13, u14, u15, u16, u17, u18, u19, u20, u21, u22, u23, u24, u25, u26, u27, u28, u29, u30, u31, u32, u33]) hsz ⟨e0, e1, e2, e3, e4, e5, e6, e7, e8, e9, e10, e11, e12, e13, e14, e15, e16, e17, e18, e19, e20, e21, e22, e23, e24, e25, e26, e27, e28, e29, e30, e31, e32, e33, trivial⟩ hdf
        clear hsz hdf hrest hslots hpt e0 e1 e2 e3 e4 e5 e6 e7 e8 e9 e10 e11 e12 e13 e14 e15 e16 e17 e18 e19 e20 e21 e22 e23 e24 e25 e26 e27 e28 e29 e30 e31 e32 e33
        have HR := Lib.hid (gb_trans HG0.out.1 hB)
        clear hB
        refine wpList_nil ?_
        go_wp2
        go_ret
        exact ⟨by rw [HO.out]; rfl, HR.out⟩
    | true =>
      cases y with
      | false =>
        refine Fg.region_t [] [.any, .any, .any, .any, .val (Value.bool false), .any, .any, .any, .any, .any, .any, .val (vV s cl sq a1 n1 c1 g a2 n2 c2 a3 n3 c3), .val (Value.bool true), .val (Value.bool true), .val (vV s' cl' sq' a1' n1' c1' g' a2' n2' c2' a3' n3' c3'), .val (Value.bool false), .val (Value.bool false), .val (Value.bool false), .val undef, .val undef, .val undef, .val undef, .val undef, .val undef, .val undef, .val (Value.bool false), .val (Value.bool false), .val undef, .val undef, .val undef, .val undef, .val undef, .val undef, .val (Value.bool false)] W0 24 (gb_refl _ _) (by kernel_rfl) (by kernel_rfl) (by kernel_rfl) (by kernel_rfl) (by decide) (by kernel_rfl) ?_ ?_
        · refine ⟨Fg.vT rfl (by decide) fun ac w h => ?_, ?_⟩
          · have e5 : ac.tmps.getD 5 undef = Value.pointer (some ⟨M1, 0, none⟩) := h.rest 5 (by kernel_rfl)
            have hb1 := HG0.out.2.1.grown h.base (by simp)
            have m0 := hb1.cell (i := 0) rfl
            have m1 := hb1.cell (i := 1) rfl
            have m2 := hb1.cell (i := 2) rfl
            have m3 := hb1.cell (i := 3) rfl
            have m4 := hb1.cell (i := 4) rfl
            have m5 := hb1.cell (i := 5) rfl
            have m6 := hb1.cell (i := 6) rfl
            refine ⟨vV s cl sq a1 n1 c1 g a2 n2 c2 a3 n3 c3, w, wants_none rfl, ?_, gb_refl _ _, rfl⟩
            clear h
            simp only [execOp, Act.eval, e5]
            go_simp
          refine ⟨Fg.cT rfl (by decide) fun ac w h => ?_, ?_⟩
          · have e11 : ac.tmps.getD 11 undef = vV s cl sq a1 n1 c1 g a2 n2 c2 a3 n3 c3 := h.dep 11 (by kernel_rfl)
            refine ⟨22, #[vV s cl sq a1 n1 c1 g a2 n2 c2 a3 n3 c3], wants_none rfl, Fg.run_call rfl rfl (by simp only [List.map_toArray, List.map_cons, List.map_nil, Act.eval, e11]) (Fg.run_enter Try.func22 (by kernel_rfl) (by kernel_rfl)), ?_⟩
            exact (HX.out w (gb_trans HG0.out.1 h.base)).mono fun _ _ ⟨he, hg⟩ => ⟨_, he, hg, rfl⟩
          refine ⟨Fg.vT rfl (by decide) fun ac w h => ?_, ?_⟩
          · have e12 : ac.tmps.getD 12 undef = Value.bool true := h.dep 12 (by kernel_rfl)
            exact ⟨_, w, wants_none rfl, Fg.run_move rfl e12, gb_refl _ _, rfl⟩
          refine ⟨Fg.vT rfl (by decide) fun ac w h => ?_, ?_⟩
          · have e13 : ac.tmps.getD 13 undef = Value.bool true := h.dep 13 (by kernel_rfl)
            have e6 : ac.tmps.getD 6 undef = Value.pointer (some ⟨M2, 0, none⟩) := h.rest 6 (by kernel_rfl)
            have hb2 := HG0.out.2.2.grown h.base (by simp)
            have m0 := hb2.cell (i := 0) rfl
            have m1 := hb2.cell (i := 1) rfl
            have m2 := hb2.cell (i := 2) rfl
            have m3 := hb2.cell (i := 3) rfl
            have m4 := hb2.cell (i := 4) rfl
            have m5 := hb2.cell (i := 5) rfl
            have m6 := hb2.cell (i := 6) rfl
            refine ⟨vV s' cl' sq' a1' n1' c1' g' a2' n2' c2' a3' n3' c3', w, wants_some (d := 13) rfl rfl (by rw [h.size]; show 13 < 34; decide) e13, ?_, gb_refl _ _, rfl⟩
            clear h
            simp only [execOp, Act.eval, e6]
            go_simp
          refine ⟨Fg.cT rfl (by decide) fun ac w h => ?_, ?_⟩
          · have e13 : ac.tmps.getD 13 undef = Value.bool true := h.dep 13 (by kernel_rfl)
            have e14 : ac.tmps.getD 14 undef = vV s' cl' sq' a1' n1' c1' g' a2' n2' c2' a3' n3' c3' := h.dep 14 (by kernel_rfl)
            refine ⟨22, #[vV s' cl' sq' a1' n1' c1' g' a2' n2' c2' a3' n3' c3'], wants_some (d := 13) rfl rfl (by rw [h.size]; show 13 < 34; decide) e13, Fg.run_call rfl rfl (by simp only [List.map_toArray, List.map_cons, List.map_nil, Act.eval, e14]) (Fg.run_enter Try.func22 (by kernel_rfl) (by kernel_rfl)), ?_⟩
            exact (HY.out w (gb_trans HG0.out.1 h.base)).mono fun _ _ ⟨he, hg⟩ => ⟨_, he, hg, rfl⟩
          refine ⟨Fg.vT rfl (by decide) fun ac w h => ?_, ?_⟩
          · have e13 : ac.tmps.getD 13 undef = Value.bool true := h.dep 13 (by kernel_rfl)
            have e15 : ac.tmps.getD 15 undef = Value.bool false := h.dep 15 (by kernel_rfl)
            refine ⟨Value.bool false, w, wants_none rfl, ?_, gb_refl _ _, rfl⟩
            clear h
            simp only [execOp, Act.eval, e13, e15]
            go_simp
          refine ⟨Fg.vT rfl (by decide) fun ac w h => ?_, ?_⟩
          · have e16 : ac.tmps.getD 16 undef = Value.bool false := h.dep 16 (by kernel_rfl)
            exact ⟨_, w, wants_none rfl, Fg.run_move rfl e16, gb_refl _ _, rfl⟩
          refine ⟨Fg.sT rfl (by decide) (fun _ => rfl) fun ac w h => ?_, ?_⟩
          · have e17 : ac.tmps.getD 17 undef = Value.bool false := h.dep 17 (by kernel_rfl)
            exact not_wants (d := 17) rfl rfl (by rw [h.size]; show 17 < 34; decide) e17 (by decide)
          refine ⟨Fg.sT rfl (by decide) (fun _ => rfl) fun ac w h => ?_, ?_⟩
          · have e17 : ac.tmps.getD 17 undef = Value.bool false := h.dep 17 (by kernel_rfl)
            exact not_wants (d := 17) rfl rfl (by rw [h.size]; show 17 < 34; decide) e17 (by decide)
          refine ⟨Fg.sT rfl (by decide) (fun _ => rfl) fun ac w h => ?_, ?_⟩
          · have e17 : ac.tmps.getD 17 undef = Value.bool false := h.dep 17 (by kernel_rfl)
            exact not_wants (d := 17) rfl rfl (by rw [h.size]; show 17 < 34; decide) e17 (by decide)
          refine ⟨Fg.sT rfl (by decide) (fun _ => rfl) fun ac w h => ?_, ?_⟩
          · have e17 : ac.tmps.getD 17 undef = Value.bool false := h.dep 17 (by kernel_rfl)
            exact not_wants (d := 17) rfl rfl (by rw [h.size]; show 17 < 34; decide) e17 (by decide)
          refine ⟨Fg.sT rfl (by decide) (fun _ => rfl) fun ac w h => ?_, ?_⟩
          · have e17 : ac.tmps.getD 17 undef = Value.bool false := h.dep 17 (by kernel_rfl)
            exact not_wants (d := 17) rfl rfl (by rw [h.size]; show 17 < 34; decide) e17 (by decide)
          refine ⟨Fg.sT rfl (by decide) (fun _ => rfl) fun ac w h => ?_, ?_⟩
          · have e17 : ac.tmps.getD 17 undef = Value.bool false := h.dep 17 (by kernel_rfl)
            exact not_wants (d := 17) rfl rfl (by rw [h.size]; show 17 < 34; decide) e17 (by decide)
          refine ⟨Fg.sT rfl (by decide) (fun _ => rfl) fun ac w h => ?_, ?_⟩
          · have e17 : ac.tmps.getD 17 undef = Value.bool false := h.dep 17 (by kernel_rfl)
            exact not_wants (d := 17) rfl rfl (by rw [h.size]; show 17 < 34; decide) e17 (by decide)
          refine ⟨Fg.vT rfl (by decide) fun ac w h => ?_, ?_⟩
          · have e17 : ac.tmps.getD 17 undef = Value.bool false := h.dep 17 (by kernel_rfl)
            refine ⟨Value.bool false, w, wants_none rfl, ?_, gb_refl _ _, rfl⟩
            clear h
            simp only [execOp, Act.eval, e17]
            go_simp
          refine ⟨Fg.vT rfl (by decide) fun ac w h => ?_, ?_⟩
          · have e25 : ac.tmps.getD 25 undef = Value.bool false := h.dep 25 (by kernel_rfl)
            exact ⟨_, w, wants_none rfl, Fg.run_move rfl e25, gb_refl _ _, rfl⟩
          refine ⟨Fg.sT rfl (by decide) (fun _ => rfl) fun ac w h => ?_, ?_⟩
          · have e26 : ac.tmps.getD 26 undef = Value.bool false := h.dep 26 (by kernel_rfl)
            exact not_wants (d := 26) rfl rfl (by rw [h.size]; show 26 < 34; decide) e26 (by decide)
          refine ⟨Fg.sT rfl (by decide) (fun _ => rfl) fun ac w h => ?_, ?_⟩
          · have e26 : ac.tmps.getD 26 undef = Value.bool false := h.dep 26 (by kernel_rfl)
            exact not_wants (d := 26) rfl rfl (by rw [h.size]; show 26 < 34; decide) e26 (by decide)
          refine ⟨Fg.sT rfl (by decide) (fun _ => rfl) fun ac w h => ?_, ?_⟩
          · have e26 : ac.tmps.getD 26 undef = Value.bool false := h.dep 26 (by kernel_rfl)
            exact not_wants (d := 26) rfl rfl (by rw [h.size]; show 26 < 34; decide) e26 (by decide)
          refine ⟨Fg.sT rfl (by decide) (fun _ => rfl) fun ac w h => ?_, ?_⟩
          · have e26 : ac.tmps.getD 26 undef = Value.bool false := h.dep 26 (by kernel_rfl)
            exact not_wants (d := 26) rfl rfl (by rw [h.size]; show 26 < 34; decide) e26 (by decide)
          refine ⟨Fg.sT rfl (by decide) (fun _ => rfl) fun ac w h => ?_, ?_⟩
          · have e26 : ac.tmps.getD 26 undef = Value.bool false := h.dep 26 (by kernel_rfl)
            exact not_wants (d := 26) rfl rfl (by rw [h.size]; show 26 < 34; decide) e26 (by decide)
          refine ⟨Fg.sT rfl (by decide) (fun _ => rfl) fun ac w h => ?_, ?_⟩
          · have e26 : ac.tmps.getD 26 undef = Value.bool false := h.dep 26 (by kernel_rfl)
            exact not_wants (d := 26) rfl rfl (by rw [h.size]; show 26 < 34; decide) e26 (by decide)
          refine ⟨Fg.vT rfl (by decide) fun ac w h => ?_, ?_⟩
          · have e26 : ac.tmps.getD 26 undef = Value.bool false := h.dep 26 (by kernel_rfl)
            refine ⟨Value.bool false, w, wants_none rfl, ?_, gb_refl _ _, rfl⟩
            clear h
            simp only [execOp, Act.eval, e26]
            go_simp
          refine ⟨Fg.vT rfl (by decide) fun ac w h => ?_, ?_⟩
          · have e33 : ac.tmps.getD 33 undef = Value.bool false := h.dep 33 (by kernel_rfl)
            exact ⟨_, w, wants_none rfl, Fg.run_assign rfl e33, gb_refl _ _, rfl⟩
          trivial
        · intro aq wq hB hsz hdf hrest hslots hpt
          obtain ⟨u0, e0⟩ : ∃ u, aq.tmps.getD 0 undef = u := ⟨_, rfl⟩
          obtain ⟨u1, e1⟩ : ∃ u, aq.tmps.getD 1 undef = u := ⟨_, rfl⟩
          obtain ⟨u2, e2⟩ : ∃ u, aq.tmps.getD 2 undef = u := ⟨_, rfl⟩
          obtain ⟨u3, e3⟩ : ∃ u, aq.tmps.getD 3 undef = u := ⟨_, rfl⟩
          have e4 : aq.tmps.getD 4 undef = Value.bool false := hslots 4 (by kernel_rfl)
          obtain ⟨u5, e5⟩ : ∃ u, aq.tmps.getD 5 undef = u := ⟨_, rfl⟩
          obtain ⟨u6, e6⟩ : ∃ u, aq.tmps.getD 6 undef = u := ⟨_, rfl⟩
          obtain ⟨u7, e7⟩ : ∃ u, aq.tmps.getD 7 undef = u := ⟨_, rfl⟩
          obtain ⟨u8, e8⟩ : ∃ u, aq.tmps.getD 8 undef = u := ⟨_, rfl⟩
          obtain ⟨u9, e9⟩ : ∃ u, aq.tmps.getD 9 undef = u := ⟨_, rfl⟩
          obtain ⟨u10, e10⟩ : ∃ u, aq.tmps.getD 10 undef = u := ⟨_, rfl⟩
          obtain ⟨u11, e11⟩ : ∃ u, aq.tmps.getD 11 undef = u := ⟨_, rfl⟩
          obtain ⟨u12, e12⟩ : ∃ u, aq.tmps.getD 12 undef = u := ⟨_, rfl⟩
          obtain ⟨u13, e13⟩ : ∃ u, aq.tmps.getD 13 undef = u := ⟨_, rfl⟩
          obtain ⟨u14, e14⟩ : ∃ u, aq.tmps.getD 14 undef = u := ⟨_, rfl⟩
          obtain ⟨u15, e15⟩ : ∃ u, aq.tmps.getD 15 undef = u := ⟨_, rfl⟩
          obtain ⟨u16, e16⟩ : ∃ u, aq.tmps.getD 16 undef = u := ⟨_, rfl⟩
          obtain ⟨u17, e17⟩ : ∃ u, aq.tmps.getD 17 undef = u := ⟨_, rfl⟩
          obtain ⟨u18, e18⟩ : ∃ u, aq.tmps.getD 18 undef = u := ⟨_, rfl⟩
          obtain ⟨u19, e19⟩ : ∃ u, aq.tmps.getD 19 undef = u := ⟨_, rfl⟩
          obtain ⟨u20, e20⟩ : ∃ u, aq.tmps.getD 20 undef = u := ⟨_, rfl⟩
          obtain ⟨u21, e21⟩ : ∃ u, aq.tmps.getD 21 undef = u := ⟨_, rfl⟩
          obtain ⟨u22, e22⟩ : ∃ u, aq.tmps.getD 22 undef = u := ⟨_, rfl⟩
          obtain ⟨u23, e23⟩ : ∃ u, aq.tmps.getD 23 undef = u := ⟨_, rfl⟩
          obtain ⟨u24, e24⟩ : ∃ u, aq.tmps.getD 24 undef = u := ⟨_, rfl⟩
          obtain ⟨u25, e25⟩ : ∃ u, aq.tmps.getD 25 undef = u := ⟨_, rfl⟩
          obtain ⟨u26, e26⟩ : ∃ u, aq.tmps.getD 26 undef = u := ⟨_, rfl⟩
          obtain ⟨u27, e27⟩ : ∃ u, aq.tmps.getD 27 undef = u := ⟨_, rfl⟩
          obtain ⟨u28, e28⟩ : ∃ u, aq.tmps.getD 28 undef = u := ⟨_, rfl⟩
          obtain ⟨u29, e29⟩ : ∃ u, aq.tmps.getD 29 undef = u := ⟨_, rfl⟩
          obtain ⟨u30, e30⟩ : ∃ u, aq.tmps.getD 30 undef = u := ⟨_, rfl⟩
          obtain ⟨u31, e31⟩ : ∃ u, aq.tmps.getD 31 undef = u := ⟨_, rfl⟩
          obtain ⟨u32, e32⟩ : ∃ u, aq.tmps.getD 32 undef = u := ⟨_, rfl⟩
          obtain ⟨u33, e33⟩ : ∃ u, aq.tmps.getD 33 undef = u := ⟨_, rfl⟩
          obtain rfl := Fg.frame_is (a := aq) (vs := [u0, u1, u2, u3, Value.bool false, u5, u6, u7, u8, u9, u10, u11, u12, u13, u14, u15, u16, u17, u18, u19, u20, u21, u22, u23, u24, u25, u26, u27, u28, u29, u30, u31, u32, u33]) hsz ⟨e0, e1, e2, e3, e4, e5, e6, e7, e8, e9, e10, e11, e12, e13, e14, e15, e16, e17, e18, e19, e20, e21, e22, e23, e24, e25, e26, e27, e28, e29, e30, e31, e32, e33, trivial⟩ hdf
          clear hsz hdf hrest hslots hpt e0 e1 e2 e3 e4 e5 e6 e7 e8 e9 e10 e11 e12 e13 e14 e15 e16 e17 e18 e19 e20 e21 e22 e23 e24 e25 e26 e27 e28 e29 e30 e31 e32 e33
          have HR := Lib.hid (gb_trans HG0.out.1 hB)
          clear hB
          refine wpList_nil ?_
          go_wp2
          go_ret
          exact ⟨by rw [HO.out]; rfl, HR.out⟩
      | true =>
        cases z with
        | false =>
          refine Fg.region_t [] [.any, .any, .any, .any, .val (Value.bool false), .any, .any, .any, .any, .any, .any, .val (vV s cl sq a1 n1 c1 g a2 n2 c2 a3 n3 c3), .val (Value.bool true), .val (Value.bool true), .val (vV s' cl' sq' a1' n1' c1' g' a2' n2' c2' a3' n3' c3'), .val (Value.bool true), .val (Value.bool true), .val (Value.bool true), .val (Value.pointer (some ⟨M1, 0, none⟩)), .val (Value.pointer (some ⟨M1, 0, none⟩)), .val (Value.string s), .val (Value.pointer (some ⟨M2, 0, none⟩)), .val (Value.pointer (some ⟨M2, 0, none⟩)), .val (Value.string s'), .val (Value.bool false), .val (Value.bool false), .val (Value.bool false), .val undef, .val undef, .val undef, .val undef, .val undef, .val undef, .val (Value.bool false)] W0 24 (gb_refl _ _) (by kernel_rfl) (by kernel_rfl) (by kernel_rfl) (by kernel_rfl) (by decide) (by kernel_rfl) ?_ ?_
          · refine ⟨Fg.vT rfl (by decide) fun ac w h => ?_, ?_⟩
            · have e5 : ac.tmps.getD 5 undef = Value.pointer (some ⟨M1, 0, none⟩) := h.rest 5 (by kernel_rfl)
              have hb1 := HG0.out.2.1.grown h.base (by simp)
              have m0 := hb1.cell (i := 0) rfl
              have m1 := hb1.cell (i := 1) rfl
              have m2 := hb1.cell (i := 2) rfl
              have m3 := hb1.cell (i := 3) rfl
              have m4 := hb1.cell (i := 4) rfl
              have m5 := hb1.cell (i := 5) rfl
              have m6 := hb1.cell (i := 6) rfl
              refine ⟨vV s cl sq a1 n1 c1 g a2 n2 c2 a3 n3 c3, w, wants_none rfl, ?_, gb_refl _ _, rfl⟩
              clear h
              simp only [execOp, Act.eval, e5]
              go_simp
            refine ⟨Fg.cT rfl (by decide) fun ac w h => ?_, ?_⟩
            · have e11 : ac.tmps.getD 11 undef = vV s cl sq a1 n1 c1 g a2 n2 c2 a3 n3 c3 := h.dep 11 (by kernel_rfl)
              refine ⟨22, #[vV s cl sq a1 n1 c1 g a2 n2 c2 a3 n3 c3], wants_none rfl, Fg.run_call rfl rfl (by simp only [List.map_toArray, List.map_cons, List.map_nil, Act.eval, e11]) (Fg.run_enter Try.func22 (by kernel_rfl) (by kernel_rfl)), ?_⟩
              exact (HX.out w (gb_trans HG0.out.1 h.base)).mono fun _ _ ⟨he, hg⟩ => ⟨_, he, hg, rfl⟩
            refine ⟨Fg.vT rfl (by decide) fun ac w h => ?_, ?_⟩
            · have e12 : ac.tmps.getD 12 undef = Value.bool true := h.dep 12 (by kernel_rfl)
              exact ⟨_, w, wants_none rfl, Fg.run_move rfl e12, gb_refl _ _, rfl⟩
            refine ⟨Fg.vT rfl (by decide) fun ac w h => ?_, ?_⟩
            · have e13 : ac.tmps.getD 13 undef = Value.bool true := h.dep 13 (by kernel_rfl)
              have e6 : ac.tmps.getD 6 undef = Value.pointer (some ⟨M2, 0, none⟩) := h.rest 6 (by kernel_rfl)
              have hb2 := HG0.out.2.2.grown h.base (by simp)
              have m0 := hb2.cell (i := 0) rfl
              have m1 := hb2.cell (i := 1) rfl
              have m2 := hb2.cell (i := 2) rfl
              have m3 := hb2.cell (i := 3) rfl
              have m4 := hb2.cell (i := 4) rfl
              have m5 := hb2.cell (i := 5) rfl
              have m6 := hb2.cell (i := 6) rfl
              refine ⟨vV s' cl' sq' a1' n1' c1' g' a2' n2' c2' a3' n3' c3', w, wants_some (d := 13) rfl rfl (by rw [h.size]; show 13 < 34; decide) e13, ?_, gb_refl _ _, rfl⟩
              clear h
              simp only [execOp, Act.eval, e6]
              go_simp
            refine ⟨Fg.cT rfl (by decide) fun ac w h => ?_, ?_⟩
            · have e13 : ac.tmps.getD 13 undef = Value.bool true := h.dep 13 (by kernel_rfl)
              have e14 : ac.tmps.getD 14 undef = vV s' cl' sq' a1' n1' c1' g' a2' n2' c2' a3' n3' c3' := h.dep 14 (by kernel_rfl)
              refine ⟨22, #[vV s' cl' sq' a1' n1' c1' g' a2' n2' c2' a3' n3' c3'], wants_some (d := 13) rfl rfl (by rw [h.size]; show 13 < 34; decide) e13, Fg.run_call rfl rfl (by simp only [List.map_toArray, List.map_cons, List.map_nil, Act.eval, e14]) (Fg.run_enter Try.func22 (by kernel_rfl) (by kernel_rfl)), ?_⟩
              exact (HY.out w (gb_trans HG0.out.1 h.base)).mono fun _ _ ⟨he, hg⟩ => ⟨_, he, hg, rfl⟩
            refine ⟨Fg.vT rfl (by decide) fun ac w h => ?_, ?_⟩
            · have e13 : ac.tmps.getD 13 undef = Value.bool true := h.dep 13 (by kernel_rfl)
              have e15 : ac.tmps.getD 15 undef = Value.bool true := h.dep 15 (by kernel_rfl)
              refine ⟨Value.bool true, w, wants_none rfl, ?_, gb_refl _ _, rfl⟩
              clear h
              simp only [execOp, Act.eval, e13, e15]
              go_simp
            refine ⟨Fg.vT rfl (by decide) fun ac w h => ?_, ?_⟩
            · have e16 : ac.tmps.getD 16 undef = Value.bool true := h.dep 16 (by kernel_rfl)
              exact ⟨_, w, wants_none rfl, Fg.run_move rfl e16, gb_refl _ _, rfl⟩
            refine ⟨Fg.vT rfl (by decide) fun ac w h => ?_, ?_⟩
            · have e17 : ac.tmps.getD 17 undef = Value.bool true := h.dep 17 (by kernel_rfl)
              have e5 : ac.tmps.getD 5 undef = Value.pointer (some ⟨M1, 0, none⟩) := h.rest 5 (by kernel_rfl)
              refine ⟨Value.pointer (some ⟨M1, 0, none⟩), w, wants_some (d := 17) rfl rfl (by rw [h.size]; show 17 < 34; decide) e17, ?_, gb_refl _ _, rfl⟩
              clear h
              simp only [execOp, Act.eval, e5]
              go_simp
            refine ⟨Fg.vT rfl (by decide) fun ac w h => ?_, ?_⟩
            · have e17 : ac.tmps.getD 17 undef = Value.bool true := h.dep 17 (by kernel_rfl)
              have e18 : ac.tmps.getD 18 undef = Value.pointer (some ⟨M1, 0, none⟩) := h.dep 18 (by kernel_rfl)
              refine ⟨Value.pointer (some ⟨M1, 0, none⟩), w, wants_some (d := 17) rfl rfl (by rw [h.size]; show 17 < 34; decide) e17, ?_, gb_refl _ _, rfl⟩
              clear h
              simp only [execOp, Act.eval, e18]
              go_simp
            refine ⟨Fg.vT rfl (by decide) fun ac w h => ?_, ?_⟩
            · have e17 : ac.tmps.getD 17 undef = Value.bool true := h.dep 17 (by kernel_rfl)
              have e19 : ac.tmps.getD 19 undef = Value.pointer (some ⟨M1, 0, none⟩) := h.dep 19 (by kernel_rfl)
              have hb1 := HG0.out.2.1.grown h.base (by simp)
              have m0 := hb1.cell (i := 0) rfl
              refine ⟨Value.string s, w, wants_some (d := 17) rfl rfl (by rw [h.size]; show 17 < 34; decide) e17, ?_, gb_refl _ _, rfl⟩
              clear h
              simp only [execOp, Act.eval, e19]
              go_simp
            refine ⟨Fg.vT rfl (by decide) fun ac w h => ?_, ?_⟩
            · have e17 : ac.tmps.getD 17 undef = Value.bool true := h.dep 17 (by kernel_rfl)
              have e6 : ac.tmps.getD 6 undef = Value.pointer (some ⟨M2, 0, none⟩) := h.rest 6 (by kernel_rfl)
              refine ⟨Value.pointer (some ⟨M2, 0, none⟩), w, wants_some (d := 17) rfl rfl (by rw [h.size]; show 17 < 34; decide) e17, ?_, gb_refl _ _, rfl⟩
              clear h
              simp only [execOp, Act.eval, e6]
              go_simp
            refine ⟨Fg.vT rfl (by decide) fun ac w h => ?_, ?_⟩
            · have e17 : ac.tmps.getD 17 undef = Value.bool true := h.dep 17 (by kernel_rfl)
              have e21 : ac.tmps.getD 21 undef = Value.pointer (some ⟨M2, 0, none⟩) := h.dep 21 (by kernel_rfl)
              refine ⟨Value.pointer (some ⟨M2, 0, none⟩), w, wants_some (d := 17) rfl rfl (by rw [h.size]; show 17 < 34; decide) e17, ?_, gb_refl _ _, rfl⟩
              clear h
              simp only [execOp, Act.eval, e21]
              go_simp
            refine ⟨Fg.vT rfl (by decide) fun ac w h => ?_, ?_⟩
            · have e17 : ac.tmps.getD 17 undef = Value.bool true := h.dep 17 (by kernel_rfl)
              have e22 : ac.tmps.getD 22 undef = Value.pointer (some ⟨M2, 0, none⟩) := h.dep 22 (by kernel_rfl)
              have hb2 := HG0.out.2.2.grown h.base (by simp)
              have m0 := hb2.cell (i := 0) rfl
              refine ⟨Value.string s', w, wants_some (d := 17) rfl rfl (by rw [h.size]; show 17 < 34; decide) e17, ?_, gb_refl _ _, rfl⟩
              clear h
              simp only [execOp, Act.eval, e22]
              go_simp
            refine ⟨Fg.vT rfl (by decide) fun ac w h => ?_, ?_⟩
            · have e17 : ac.tmps.getD 17 undef = Value.bool true := h.dep 17 (by kernel_rfl)
              have e20 : ac.tmps.getD 20 undef = Value.string s := h.dep 20 (by kernel_rfl)
              have e23 : ac.tmps.getD 23 undef = Value.string s' := h.dep 23 (by kernel_rfl)
              have hz := HZ.out
              refine ⟨.bool false, w, wants_some (d := 17) rfl rfl (by rw [h.size]; show 17 < 34; decide) e17, ?_, gb_refl _ _, rfl⟩
              clear h
              simp only [execOp, Act.eval, e20, e23]
              go_simp
            refine ⟨Fg.vT rfl (by decide) fun ac w h => ?_, ?_⟩
            · have e17 : ac.tmps.getD 17 undef = Value.bool true := h.dep 17 (by kernel_rfl)
              have e24 : ac.tmps.getD 24 undef = Value.bool false := h.dep 24 (by kernel_rfl)
              refine ⟨Value.bool false, w, wants_none rfl, ?_, gb_refl _ _, rfl⟩
              clear h
              simp only [execOp, Act.eval, e17, e24]
              go_simp
            refine ⟨Fg.vT rfl (by decide) fun ac w h => ?_, ?_⟩
            · have e25 : ac.tmps.getD 25 undef = Value.bool false := h.dep 25 (by kernel_rfl)
              exact ⟨_, w, wants_none rfl, Fg.run_move rfl e25, gb_refl _ _, rfl⟩
            refine ⟨Fg.sT rfl (by decide) (fun _ => rfl) fun ac w h => ?_, ?_⟩
            · have e26 : ac.tmps.getD 26 undef = Value.bool false := h.dep 26 (by kernel_rfl)
              exact not_wants (d := 26) rfl rfl (by rw [h.size]; show 26 < 34; decide) e26 (by decide)
            refine ⟨Fg.sT rfl (by decide) (fun _ => rfl) fun ac w h => ?_, ?_⟩
            · have e26 : ac.tmps.getD 26 undef = Value.bool false := h.dep 26 (by kernel_rfl)
              exact not_wants (d := 26) rfl rfl (by rw [h.size]; show 26 < 34; decide) e26 (by decide)
            refine ⟨Fg.sT rfl (by decide) (fun _ => rfl) fun ac w h => ?_, ?_⟩
            · have e26 : ac.tmps.getD 26 undef = Value.bool false := h.dep 26 (by kernel_rfl)
              exact not_wants (d := 26) rfl rfl (by rw [h.size]; show 26 < 34; decide) e26 (by decide)
            refine ⟨Fg.sT rfl (by decide) (fun _ => rfl) fun ac w h => ?_, ?_⟩
            · have e26 : ac.tmps.getD 26 undef = Value.bool false := h.dep 26 (by kernel_rfl)
              exact not_wants (d := 26) rfl rfl (by rw [h.size]; show 26 < 34; decide) e26 (by decide)
            refine ⟨Fg.sT rfl (by decide) (fun _ => rfl) fun ac w h => ?_, ?_⟩
            · have e26 : ac.tmps.getD 26 undef = Value.bool false := h.dep 26 (by kernel_rfl)
              exact not_wants (d := 26) rfl rfl (by rw [h.size]; show 26 < 34; decide) e26 (by decide)
            refine ⟨Fg.sT rfl (by decide) (fun _ => rfl) fun ac w h => ?_, ?_⟩
            · have e26 : ac.tmps.getD 26 undef = Value.bool false := h.dep 26 (by kernel_rfl)
              exact not_wants (d := 26) rfl rfl (by rw [h.size]; show 26 < 34; decide) e26 (by decide)
            refine ⟨Fg.vT rfl (by decide) fun ac w h => ?_, ?_⟩
            · have e26 : ac.tmps.getD 26 undef = Value.bool false := h.dep 26 (by kernel_rfl)
              refine ⟨Value.bool false, w, wants_none rfl, ?_, gb_refl _ _, rfl⟩
              clear h
              simp only [execOp, Act.eval, e26]
              go_simp
            refine ⟨Fg.vT rfl (by decide) fun ac w h => ?_, ?_⟩
            · have e33 : ac.tmps.getD 33 undef = Value.bool false := h.dep 33 (by kernel_rfl)
              exact ⟨_, w, wants_none rfl, Fg.run_assign rfl e33, gb_refl _ _, rfl⟩
            trivial
          · intro aq wq hB hsz hdf hrest hslots hpt
            obtain ⟨u0, e0⟩ : ∃ u, aq.tmps.getD 0 undef = u := ⟨_, rfl⟩
            obtain ⟨u1, e1⟩ : ∃ u, aq.tmps.getD 1 undef = u := ⟨_, rfl⟩
            obtain ⟨u2, e2⟩ : ∃ u, aq.tmps.getD 2 undef = u := ⟨_, rfl⟩
            obtain ⟨u3, e3⟩ : ∃ u, aq.tmps.getD 3 undef = u := ⟨_, rfl⟩
            have e4 : aq.tmps.getD 4 undef = Value.bool false := hslots 4 (by kernel_rfl)
            obtain ⟨u5, e5⟩ : ∃ u, aq.tmps.getD 5 undef = u := ⟨_, rfl⟩
            obtain ⟨u6, e6⟩ : ∃ u, aq.tmps.getD 6 undef = u := ⟨_, rfl⟩
            obtain ⟨u7, e7⟩ : ∃ u, aq.tmps.getD 7 undef = u := ⟨_, rfl⟩
            obtain ⟨u8, e8⟩ : ∃ u, aq.tmps.getD 8 undef = u := ⟨_, rfl⟩
            obtain ⟨u9, e9⟩ : ∃ u, aq.tmps.getD 9 undef = u := ⟨_, rfl⟩
            obtain ⟨u10, e10⟩ : ∃ u, aq.tmps.getD 10 undef = u := ⟨_, rfl⟩
            obtain ⟨u11, e11⟩ : ∃ u, aq.tmps.getD 11 undef = u := ⟨_, rfl⟩
            obtain ⟨u12, e12⟩ : ∃ u, aq.tmps.getD 12 undef = u := ⟨_, rfl⟩
            obtain ⟨u13, e13⟩ : ∃ u, aq.tmps.getD 13 undef = u := ⟨_, rfl⟩
            obtain ⟨u14, e14⟩ : ∃ u, aq.tmps.getD 14 undef = u := ⟨_, rfl⟩
            obtain ⟨u15, e15⟩ : ∃ u, aq.tmps.getD 15 undef = u := ⟨_, rfl⟩
            obtain ⟨u16, e16⟩ : ∃ u, aq.tmps.getD 16 undef = u := ⟨_, rfl⟩
            obtain ⟨u17, e17⟩ : ∃ u, aq.tmps.getD 17 undef = u := ⟨_, rfl⟩
            obtain ⟨u18, e18⟩ : ∃ u, aq.tmps.getD 18 undef = u := ⟨_, rfl⟩
            obtain ⟨u19, e19⟩ : ∃ u, aq.tmps.getD 19 undef = u := ⟨_, rfl⟩
            obtain ⟨u20, e20⟩ : ∃ u, aq.tmps.getD 20 undef = u := ⟨_, rfl⟩
            obtain ⟨u21, e21⟩ : ∃ u, aq.tmps.getD 21 undef = u := ⟨_, rfl⟩
            obtain ⟨u22, e22⟩ : ∃ u, aq.tmps.getD 22 undef = u := ⟨_, rfl⟩
            obtain ⟨u23, e23⟩ : ∃ u, aq.tmps.getD 23 undef = u := ⟨_, rfl⟩
            obtain ⟨u24, e24⟩ : ∃ u, aq.tmps.getD 24 undef = u := ⟨_, rfl⟩
            obtain ⟨u25, e25⟩ : ∃ u, aq.tmps.getD 25 undef = u := ⟨_, rfl⟩
            obtain ⟨u26, e26⟩ : ∃ u, aq.tmps.getD 26 undef = u := ⟨_, rfl⟩
            obtain ⟨u27, e27⟩ : ∃ u, aq.tmps.getD 27 undef = u := ⟨_, rfl⟩
            obtain ⟨u28, e28⟩ : ∃ u, aq.tmps.getD 28 undef = u := ⟨_, rfl⟩
            obtain ⟨u29, e29⟩ : ∃ u, aq.tmps.getD 29 undef = u := ⟨_, rfl⟩
            obtain ⟨u30, e30⟩ : ∃ u, aq.tmps.getD 30 undef = u := ⟨_, rfl⟩
            obtain ⟨u31, e31⟩ : ∃ u, aq.tmps.getD 31 undef = u := ⟨_, rfl⟩
            obtain ⟨u32, e32⟩ : ∃ u, aq.tmps.getD 32 undef = u := ⟨_, rfl⟩
            obtain ⟨u33, e33⟩ : ∃ u, aq.tmps.getD 33 undef = u := ⟨_, rfl⟩
            obtain rfl := Fg.frame_is (a := aq) (vs := [u0, u1, u2, u3, Value.bool false, u5, u6, u7, u8, u9, u10, u11, u12, u13, u14, u15, u16, u17, u18, u19, u20, u21, u22, u23, u24, u25, u26, u27, u28, u29, u30, u31, u32, u33]) hsz ⟨e0, e1, e2, e3, e4, e5, e6, e7, e8, e9, e10, e11, e12, e13, e14, e15, e16, e17, e18, e19, e20, e21, e22, e23, e24, e25, e26, e27, e28, e29, e30, e31, e32, e33, trivial⟩ hdf
            clear hsz hdf hrest hslots hpt e0 e1 e2 e3 e4 e5 e6 e7 e8 e9 e10 e11 e12 e13 e14 e15 e16 e17 e18 e19 e20 e21 e22 e23 e24 e25 e26 e27 e28 e29 e30 e31 e32 e33
            have HR := Lib.hid (gb_trans HG0.out.1 hB)
            clear hB
            refine wpList_nil ?_
            go_wp2
            go_ret
            exact ⟨by rw [HO.out]; rfl, HR.out⟩
        | true =>
          refine Fg.region_t [] [.any, .any, .any, .any, .val (Value.bool t), .any, .any, .any, .any, .any, .any, .val (vV s cl sq a1 n1 c1 g a2 n2 c2 a3 n3 c3), .val (Value.bool true), .val (Value.bool true), .val (vV s' cl' sq' a1' n1' c1' g' a2' n2' c2' a3' n3' c3'), .val (Value.bool true), .val (Value.bool true), .val (Value.bool true), .val (Value.pointer (some ⟨M1, 0, none⟩)), .val (Value.pointer (some ⟨M1, 0, none⟩)), .val (Value.string s), .val (Value.pointer (some ⟨M2, 0, none⟩)), .val (Value.pointer (some ⟨M2, 0, none⟩)), .val (Value.string s'), .val (Value.bool true), .val (Value.bool true), .val (Value.bool true), .val (Value.pointer (some ⟨M1, 0, none⟩)), .val (Value.pointer (some ⟨M1, 3, none⟩)), .val (Value.slice a1 n1 c1), .val (vV s' cl' sq' a1' n1' c1' g' a2' n2' c2' a3' n3' c3'), .val (Value.agg #[iV cl', iV sq']), .val (Value.bool t), .val (Value.bool t)] W0 24 (gb_refl _ _) (by kernel_rfl) (by kernel_rfl) (by kernel_rfl) (by kernel_rfl) (by decide) (by kernel_rfl) ?_ ?_
          · refine ⟨Fg.vT rfl (by decide) fun ac w h => ?_, ?_⟩
            · have e5 : ac.tmps.getD 5 undef = Value.pointer (some ⟨M1, 0, none⟩) := h.rest 5 (by kernel_rfl)
              have hb1 := HG0.out.2.1.grown h.base (by simp)
              have m0 := hb1.cell (i := 0) rfl
              have m1 := hb1.cell (i := 1) rfl
              have m2 := hb1.cell (i := 2) rfl
              have m3 := hb1.cell (i := 3) rfl
              have m4 := hb1.cell (i := 4) rfl
              have m5 := hb1.cell (i := 5) rfl
              have m6 := hb1.cell (i := 6) rfl
              refine ⟨vV s cl sq a1 n1 c1 g a2 n2 c2 a3 n3 c3, w, wants_none rfl, ?_, gb_refl _ _, rfl⟩
              clear h
              simp only [execOp, Act.eval, e5]
              go_simp
            refine ⟨Fg.cT rfl (by decide) fun ac w h => ?_, ?_⟩
            · have e11 : ac.tmps.getD 11 undef = vV s cl sq a1 n1 c1 g a2 n2 c2 a3 n3 c3 := h.dep 11 (by kernel_rfl)
              refine ⟨22, #[vV s cl sq a1 n1 c1 g a2 n2 c2 a3 n3 c3], wants_none rfl, Fg.run_call rfl rfl (by simp only [List.map_toArray, List.map_cons, List.map_nil, Act.eval, e11]) (Fg.run_enter Try.func22 (by kernel_rfl) (by kernel_rfl)), ?_⟩
              exact (HX.out w (gb_trans HG0.out.1 h.base)).mono fun _ _ ⟨he, hg⟩ => ⟨_, he, hg, rfl⟩
            refine ⟨Fg.vT rfl (by decide) fun ac w h => ?_, ?_⟩
            · have e12 : ac.tmps.getD 12 undef = Value.bool true := h.dep 12 (by kernel_rfl)
              exact ⟨_, w, wants_none rfl, Fg.run_move rfl e12, gb_refl _ _, rfl⟩
            refine ⟨Fg.vT rfl (by decide) fun ac w h => ?_, ?_⟩
            · have e13 : ac.tmps.getD 13 undef = Value.bool true := h.dep 13 (by kernel_rfl)
              have e6 : ac.tmps.getD 6 undef = Value.pointer (some ⟨M2, 0, none⟩) := h.rest 6 (by kernel_rfl)
              have hb2 := HG0.out.2.2.grown h.base (by simp)
              have m0 := hb2.cell (i := 0) rfl
              have m1 := hb2.cell (i := 1) rfl
              have m2 := hb2.cell (i := 2) rfl
              have m3 := hb2.cell (i := 3) rfl
              have m4 := hb2.cell (i := 4) rfl
              have m5 := hb2.cell (i := 5) rfl
              have m6 := hb2.cell (i := 6) rfl
              refine ⟨vV s' cl' sq' a1' n1' c1' g' a2' n2' c2' a3' n3' c3', w, wants_some (d := 13) rfl rfl (by rw [h.size]; show 13 < 34; decide) e13, ?_, gb_refl _ _, rfl⟩
              clear h
              simp only [execOp, Act.eval, e6]
              go_simp
            refine ⟨Fg.cT rfl (by decide) fun ac w h => ?_, ?_⟩
            · have e13 : ac.tmps.getD 13 undef = Value.bool true := h.dep 13 (by kernel_rfl)
              have e14 : ac.tmps.getD 14 undef = vV s' cl' sq' a1' n1' c1' g' a2' n2' c2' a3' n3' c3' := h.dep 14 (by kernel_rfl)
              refine ⟨22, #[vV s' cl' sq' a1' n1' c1' g' a2' n2' c2' a3' n3' c3'], wants_some (d := 13) rfl rfl (by rw [h.size]; show 13 < 34; decide) e13, Fg.run_call rfl rfl (by simp only [List.map_toArray, List.map_cons, List.map_nil, Act.eval, e14]) (Fg.run_enter Try.func22 (by kernel_rfl) (by kernel_rfl)), ?_⟩
              exact (HY.out w (gb_trans HG0.out.1 h.base)).mono fun _ _ ⟨he, hg⟩ => ⟨_, he, hg, rfl⟩
            refine ⟨Fg.vT rfl (by decide) fun ac w h => ?_, ?_⟩
            · have e13 : ac.tmps.getD 13 undef = Value.bool true := h.dep 13 (by kernel_rfl)
              have e15 : ac.tmps.getD 15 undef = Value.bool true := h.dep 15 (by kernel_rfl)
              refine ⟨Value.bool true, w, wants_none rfl, ?_, gb_refl _ _, rfl⟩
              clear h
              simp only [execOp, Act.eval, e13, e15]
              go_simp
            refine ⟨Fg.vT rfl (by decide) fun ac w h => ?_, ?_⟩
            · have e16 : ac.tmps.getD 16 undef = Value.bool true := h.dep 16 (by kernel_rfl)
              exact ⟨_, w, wants_none rfl, Fg.run_move rfl e16, gb_refl _ _, rfl⟩
            refine ⟨Fg.vT rfl (by decide) fun ac w h => ?_, ?_⟩
            · have e17 : ac.tmps.getD 17 undef = Value.bool true := h.dep 17 (by kernel_rfl)
              have e5 : ac.tmps.getD 5 undef = Value.pointer (some ⟨M1, 0, none⟩) := h.rest 5 (by kernel_rfl)
              refine ⟨Value.pointer (some ⟨M1, 0, none⟩), w, wants_some (d := 17) rfl rfl (by rw [h.size]; show 17 < 34; decide) e17, ?_, gb_refl _ _, rfl⟩
              clear h
              simp only [execOp, Act.eval, e5]
              go_simp
            refine ⟨Fg.vT rfl (by decide) fun ac w h => ?_, ?_⟩
            · have e17 : ac.tmps.getD 17 undef = Value.bool true := h.dep 17 (by kernel_rfl)
              have e18 : ac.tmps.getD 18 undef = Value.pointer (some ⟨M1, 0, none⟩) := h.dep 18 (by kernel_rfl)
              refine ⟨Value.pointer (some ⟨M1, 0, none⟩), w, wants_some (d := 17) rfl rfl (by rw [h.size]; show 17 < 34; decide) e17, ?_, gb_refl _ _, rfl⟩
              clear h
              simp only [execOp, Act.eval, e18]
              go_simp
            refine ⟨Fg.vT rfl (by decide) fun ac w h => ?_, ?_⟩
            · have e17 : ac.tmps.getD 17 undef = Value.bool true := h.dep 17 (by kernel_rfl)
              have e19 : ac.tmps.getD 19 undef = Value.pointer (some ⟨M1, 0, none⟩) := h.dep 19 (by kernel_rfl)
              have hb1 := HG0.out.2.1.grown h.base (by simp)
              have m0 := hb1.cell (i := 0) rfl
              refine ⟨Value.string s, w, wants_some (d := 17) rfl rfl (by rw [h.size]; show 17 < 34; decide) e17, ?_, gb_refl _ _, rfl⟩
              clear h
              simp only [execOp, Act.eval, e19]
              go_simp
            refine ⟨Fg.vT rfl (by decide) fun ac w h => ?_, ?_⟩
            · have e17 : ac.tmps.getD 17 undef = Value.bool true := h.dep 17 (by kernel_rfl)
              have e6 : ac.tmps.getD 6 undef = Value.pointer (some ⟨M2, 0, none⟩) := h.rest 6 (by kernel_rfl)
              refine ⟨Value.pointer (some ⟨M2, 0, none⟩), w, wants_some (d := 17) rfl rfl (by rw [h.size]; show 17 < 34; decide) e17, ?_, gb_refl _ _, rfl⟩
              clear h
              simp only [execOp, Act.eval, e6]
              go_simp
            refine ⟨Fg.vT rfl (by decide) fun ac w h => ?_, ?_⟩
            · have e17 : ac.tmps.getD 17 undef = Value.bool true := h.dep 17 (by kernel_rfl)
              have e21 : ac.tmps.getD 21 undef = Value.pointer (some ⟨M2, 0, none⟩) := h.dep 21 (by kernel_rfl)
              refine ⟨Value.pointer (some ⟨M2, 0, none⟩), w, wants_some (d := 17) rfl rfl (by rw [h.size]; show 17 < 34; decide) e17, ?_, gb_refl _ _, rfl⟩
              clear h
              simp only [execOp, Act.eval, e21]
              go_simp
            refine ⟨Fg.vT rfl (by decide) fun ac w h => ?_, ?_⟩
            · have e17 : ac.tmps.getD 17 undef = Value.bool true := h.dep 17 (by kernel_rfl)
              have e22 : ac.tmps.getD 22 undef = Value.pointer (some ⟨M2, 0, none⟩) := h.dep 22 (by kernel_rfl)
              have hb2 := HG0.out.2.2.grown h.base (by simp)
              have m0 := hb2.cell (i := 0) rfl
              refine ⟨Value.string s', w, wants_some (d := 17) rfl rfl (by rw [h.size]; show 17 < 34; decide) e17, ?_, gb_refl _ _, rfl⟩
              clear h
              simp only [execOp, Act.eval, e22]
              go_simp
            refine ⟨Fg.vT rfl (by decide) fun ac w h => ?_, ?_⟩
            · have e17 : ac.tmps.getD 17 undef = Value.bool true := h.dep 17 (by kernel_rfl)
              have e20 : ac.tmps.getD 20 undef = Value.string s := h.dep 20 (by kernel_rfl)
              have e23 : ac.tmps.getD 23 undef = Value.string s' := h.dep 23 (by kernel_rfl)
              have hz := HZ.out
              refine ⟨.bool true, w, wants_some (d := 17) rfl rfl (by rw [h.size]; show 17 < 34; decide) e17, ?_, gb_refl _ _, rfl⟩
              clear h
              simp only [execOp, Act.eval, e20, e23]
              go_simp
            refine ⟨Fg.vT rfl (by decide) fun ac w h => ?_, ?_⟩
            · have e17 : ac.tmps.getD 17 undef = Value.bool true := h.dep 17 (by kernel_rfl)
              have e24 : ac.tmps.getD 24 undef = Value.bool true := h.dep 24 (by kernel_rfl)
              refine ⟨Value.bool true, w, wants_none rfl, ?_, gb_refl _ _, rfl⟩
              clear h
              simp only [execOp, Act.eval, e17, e24]
              go_simp
            refine ⟨Fg.vT rfl (by decide) fun ac w h => ?_, ?_⟩
            · have e25 : ac.tmps.getD 25 undef = Value.bool true := h.dep 25 (by kernel_rfl)
              exact ⟨_, w, wants_none rfl, Fg.run_move rfl e25, gb_refl _ _, rfl⟩
            refine ⟨Fg.vT rfl (by decide) fun ac w h => ?_, ?_⟩
            · have e26 : ac.tmps.getD 26 undef = Value.bool true := h.dep 26 (by kernel_rfl)
              have e5 : ac.tmps.getD 5 undef = Value.pointer (some ⟨M1, 0, none⟩) := h.rest 5 (by kernel_rfl)
              refine ⟨Value.pointer (some ⟨M1, 0, none⟩), w, wants_some (d := 26) rfl rfl (by rw [h.size]; show 26 < 34; decide) e26, ?_, gb_refl _ _, rfl⟩
              clear h
              simp only [execOp, Act.eval, e5]
              go_simp
            refine ⟨Fg.vT rfl (by decide) fun ac w h => ?_, ?_⟩
            · have e26 : ac.tmps.getD 26 undef = Value.bool true := h.dep 26 (by kernel_rfl)
              have e27 : ac.tmps.getD 27 undef = Value.pointer (some ⟨M1, 0, none⟩) := h.dep 27 (by kernel_rfl)
              refine ⟨Value.pointer (some ⟨M1, 3, none⟩), w, wants_some (d := 26) rfl rfl (by rw [h.size]; show 26 < 34; decide) e26, ?_, gb_refl _ _, rfl⟩
              clear h
              simp only [execOp, Act.eval, e27]
              go_simp
            refine ⟨Fg.vT rfl (by decide) fun ac w h => ?_, ?_⟩
            · have e26 : ac.tmps.getD 26 undef = Value.bool true := h.dep 26 (by kernel_rfl)
              have e28 : ac.tmps.getD 28 undef = Value.pointer (some ⟨M1, 3, none⟩) := h.dep 28 (by kernel_rfl)
              have hb1 := HG0.out.2.1.grown h.base (by simp)
              have m3 := hb1.cell (i := 3) rfl
              refine ⟨Value.slice a1 n1 c1, w, wants_some (d := 26) rfl rfl (by rw [h.size]; show 26 < 34; decide) e26, ?_, gb_refl _ _, rfl⟩
              clear h
              simp only [execOp, Act.eval, e28]
              go_simp
            refine ⟨Fg.vT rfl (by decide) fun ac w h => ?_, ?_⟩
            · have e26 : ac.tmps.getD 26 undef = Value.bool true := h.dep 26 (by kernel_rfl)
              have e6 : ac.tmps.getD 6 undef = Value.pointer (some ⟨M2, 0, none⟩) := h.rest 6 (by kernel_rfl)
              have hb2 := HG0.out.2.2.grown h.base (by simp)
              have m0 := hb2.cell (i := 0) rfl
              have m1 := hb2.cell (i := 1) rfl
              have m2 := hb2.cell (i := 2) rfl
              have m3 := hb2.cell (i := 3) rfl
              have m4 := hb2.cell (i := 4) rfl
              have m5 := hb2.cell (i := 5) rfl
              have m6 := hb2.cell (i := 6) rfl
              refine ⟨vV s' cl' sq' a1' n1' c1' g' a2' n2' c2' a3' n3' c3', w, wants_some (d := 26) rfl rfl (by rw [h.size]; show 26 < 34; decide) e26, ?_, gb_refl _ _, rfl⟩
              clear h
              simp only [execOp, Act.eval, e6]
              go_simp
            refine ⟨Fg.cT rfl (by decide) fun ac w h => ?_, ?_⟩
            · have e26 : ac.tmps.getD 26 undef = Value.bool true := h.dep 26 (by kernel_rfl)
              have e30 : ac.tmps.getD 30 undef = vV s' cl' sq' a1' n1' c1' g' a2' n2' c2' a3' n3' c3' := h.dep 30 (by kernel_rfl)
              refine ⟨24, #[vV s' cl' sq' a1' n1' c1' g' a2' n2' c2' a3' n3' c3'], wants_some (d := 26) rfl rfl (by rw [h.size]; show 26 < 34; decide) e26, Fg.run_call rfl rfl (by simp only [List.map_toArray, List.map_cons, List.map_nil, Act.eval, e30]) (Fg.run_enter Try.func24 (by kernel_rfl) (by kernel_rfl)), ?_⟩
              exact (dot_any s' cl' sq' a1' n1' c1' g' a2' n2' c2' a3' n3' c3' w).mono fun _ _ ⟨he, hg⟩ => ⟨_, he, hg, rfl⟩
            refine ⟨Fg.cT rfl (by decide) fun ac w h => ?_, ?_⟩
            · have e26 : ac.tmps.getD 26 undef = Value.bool true := h.dep 26 (by kernel_rfl)
              have e29 : ac.tmps.getD 29 undef = Value.slice a1 n1 c1 := h.dep 29 (by kernel_rfl)
              have e31 : ac.tmps.getD 31 undef = Value.agg #[iV cl', iV sq'] := h.dep 31 (by kernel_rfl)
              refine ⟨23, #[Value.slice a1 n1 c1, Value.agg #[iV cl', iV sq']], wants_some (d := 26) rfl rfl (by rw [h.size]; show 26 < 34; decide) e26, Fg.run_call rfl rfl (by simp only [List.map_toArray, List.map_cons, List.map_nil, Act.eval, e29, e31]) (Fg.run_enter Try.func23 (by kernel_rfl) (by kernel_rfl)), ?_⟩
              exact (HH.out w (gb_trans HG0.out.1 h.base)).mono fun _ _ ⟨he, hg⟩ => ⟨_, he, hg, rfl⟩
            refine ⟨Fg.vT rfl (by decide) fun ac w h => ?_, ?_⟩
            · have e26 : ac.tmps.getD 26 undef = Value.bool true := h.dep 26 (by kernel_rfl)
              have e32 : ac.tmps.getD 32 undef = Value.bool t := h.dep 32 (by kernel_rfl)
              refine ⟨Value.bool t, w, wants_none rfl, ?_, gb_refl _ _, rfl⟩
              clear h
              simp only [execOp, Act.eval, e26, e32]
              go_simp
            refine ⟨Fg.vT rfl (by decide) fun ac w h => ?_, ?_⟩
            · have e33 : ac.tmps.getD 33 undef = Value.bool t := h.dep 33 (by kernel_rfl)
              exact ⟨_, w, wants_none rfl, Fg.run_assign rfl e33, gb_refl _ _, rfl⟩
            trivial
          · intro aq wq hB hsz hdf hrest hslots hpt
            obtain ⟨u0, e0⟩ : ∃ u, aq.tmps.getD 0 undef = u := ⟨_, rfl⟩
            obtain ⟨u1, e1⟩ : ∃ u, aq.tmps.getD 1 undef = u := ⟨_, rfl⟩
            obtain ⟨u2, e2⟩ : ∃ u, aq.tmps.getD 2 undef = u := ⟨_, rfl⟩
            obtain ⟨u3, e3⟩ : ∃ u, aq.tmps.getD 3 undef = u := ⟨_, rfl⟩
            have e4 : aq.tmps.getD 4 undef = Value.bool t := hslots 4 (by kernel_rfl)
            obtain ⟨u5, e5⟩ : ∃ u, aq.tmps.getD 5 undef = u := ⟨_, rfl⟩
            obtain ⟨u6, e6⟩ : ∃ u, aq.tmps.getD 6 undef = u := ⟨_, rfl⟩
            obtain ⟨u7, e7⟩ : ∃ u, aq.tmps.getD 7 undef = u := ⟨_, rfl⟩
            obtain ⟨u8, e8⟩ : ∃ u, aq.tmps.getD 8 undef = u := ⟨_, rfl⟩
            obtain ⟨u9, e9⟩ : ∃ u, aq.tmps.getD 9 undef = u := ⟨_, rfl⟩
            obtain ⟨u10, e10⟩ : ∃ u, aq.tmps.getD 10 undef = u := ⟨_, rfl⟩
            obtain ⟨u11, e11⟩ : ∃ u, aq.tmps.getD 11 undef = u := ⟨_, rfl⟩
            obtain ⟨u12, e12⟩ : ∃ u, aq.tmps.getD 12 undef = u := ⟨_, rfl⟩
            obtain ⟨u13, e13⟩ : ∃ u, aq.tmps.getD 13 undef = u := ⟨_, rfl⟩
            obtain ⟨u14, e14⟩ : ∃ u, aq.tmps.getD 14 undef = u := ⟨_, rfl⟩
            obtain ⟨u15, e15⟩ : ∃ u, aq.tmps.getD 15 undef = u := ⟨_, rfl⟩
            obtain ⟨u16, e16⟩ : ∃ u, aq.tmps.getD 16 undef = u := ⟨_, rfl⟩
            obtain ⟨u17, e17⟩ : ∃ u, aq.tmps.getD 17 undef = u := ⟨_, rfl⟩
            obtain ⟨u18, e18⟩ : ∃ u, aq.tmps.getD 18 undef = u := ⟨_, rfl⟩
            obtain ⟨u19, e19⟩ : ∃ u, aq.tmps.getD 19 undef = u := ⟨_, rfl⟩
            obtain ⟨u20, e20⟩ : ∃ u, aq.tmps.getD 20 undef = u := ⟨_, rfl⟩
            obtain ⟨u21, e21⟩ : ∃ u, aq.tmps.getD 21 undef = u := ⟨_, rfl⟩
            obtain ⟨u22, e22⟩ : ∃ u, aq.tmps.getD 22 undef = u := ⟨_, rfl⟩
            obtain ⟨u23, e23⟩ : ∃ u, aq.tmps.getD 23 undef = u := ⟨_, rfl⟩
            obtain ⟨u24, e24⟩ : ∃ u, aq.tmps.getD 24 undef = u := ⟨_, rfl⟩
            obtain ⟨u25, e25⟩ : ∃ u, aq.tmps.getD 25 undef = u := ⟨_, rfl⟩
            obtain ⟨u26, e26⟩ : ∃ u, aq.tmps.getD 26 undef = u := ⟨_, rfl⟩
            obtain ⟨u27, e27⟩ : ∃ u, aq.tmps.getD 27 undef = u := ⟨_, rfl⟩
            obtain ⟨u28, e28⟩ : ∃ u, aq.tmps.getD 28 undef = u := ⟨_, rfl⟩
            obtain ⟨u29, e29⟩ : ∃ u, aq.tmps.getD 29 undef = u := ⟨_, rfl⟩
            obtain ⟨u30, e30⟩ : ∃ u, aq.tmps.getD 30 undef = u := ⟨_, rfl⟩
            obtain ⟨u31, e31⟩ : ∃ u, aq.tmps.getD 31 undef = u := ⟨_, rfl⟩
            obtain ⟨u32, e32⟩ : ∃ u, aq.tmps.getD 32 undef = u := ⟨_, rfl⟩
            obtain ⟨u33, e33⟩ : ∃ u, aq.tmps.getD 33 undef = u := ⟨_, rfl⟩
            obtain rfl := Fg.frame_is (a := aq) (vs := [u0, u1, u2, u3, Value.bool t, u5, u6, u7, u8, u9, u10, u11, u12, u13, u14, u15, u16, u17, u18, u19, u20, u21, u22, u23, u24, u25, u26, u27, u28, u29, u30, u31, u32, u33]) hsz ⟨e0, e1, e2, e3, e4, e5, e6, e7, e8, e9, e10, e11, e12, e13, e14, e15, e16, e17, e18, e19, e20, e21, e22, e23, e24, e25, e26, e27, e28, e29, e30, e31, e32, e33, trivial⟩ hdf
            clear hsz hdf hrest hslots hpt e0 e1 e2 e3 e4 e5 e6 e7 e8 e9 e10 e11 e12 e13 e14 e15 e16 e17 e18 e19 e20 e21 e22 e23 e24 e25 e26 e27 e28 e29 e30 e31 e32 e33
            have HR := Lib.hid (gb_trans HG0.out.1 hB)
            clear hB
            refine wpList_nil ?_
            go_wp2
            go_ret
            exact ⟨by rw [HO.out]; rfl, HR.out⟩
end Rc
end Go.Proofs.Ytlkiancedgaicaa

/- tame: whether over is transitive, without rounds, no dot twice. -/
namespace Go.Proofs.Ytlkiancedgaicaa
open Go.RowKit Ow Wi Ve Rc
namespace Sb
def badB (a b : R) : Bool := (decide (a.cl = b.cl) && decide (a.sq = b.sq) && !sameB a b) || (overB a b && overB b a)
def okB (l : List E) (a b : Nat) : Prop := badB (l.getD a e0).2 (l.getD b e0).2 = false ∧ ∀ c, c < l.length → overB (l.getD a e0).2 (l.getD b e0).2 = true → overB (l.getD b e0).2 (l.getD c e0).2 = true → overB (l.getD a e0).2 (l.getD c e0).2 = true
theorem mem_at {l : List E} {r : R} (h : r ∈ recs l) : ∃ a, a < l.length ∧ (l.getD a e0).2 = r := by
  obtain ⟨x, hx, rfl⟩ := List.mem_map.1 h
  obtain ⟨i, hi, rfl⟩ := List.getElem_of_mem hx
  exact ⟨i, hi, by rw [List.getD_eq_getElem?_getD, List.getElem?_eq_getElem hi]; rfl⟩
theorem tame_of {l : List E} (h : ∀ a, a < l.length → ∀ b, b < l.length → okB l a b) : Tame (recs l) := by
  refine ⟨fun x hx y hy e => ?_, fun x hx y hy e => ?_, fun x hx y hy z hz h1 h2 => ?_⟩
  · obtain ⟨a, ha, rfl⟩ := mem_at hx
    obtain ⟨b, hb, rfl⟩ := mem_at hy
    have := (h a ha b hb).1
    obtain ⟨e1, e2⟩ := (dot_iff _ _).1 e
    unfold badB at this
    rw [decide_eq_true e1, decide_eq_true e2] at this
    simp only [Bool.true_and, Bool.or_eq_false_iff, Bool.not_eq_false'] at this
    exact (sameB_iff _ _).1 this.1
  · obtain ⟨a, ha, rfl⟩ := mem_at hx
    obtain ⟨b, hb, rfl⟩ := mem_at hy
    have := (h a ha b hb).1
    unfold badB at this
    rw [e] at this
    simp only [Bool.true_and, Bool.or_eq_false_iff] at this
    exact this.2
  · obtain ⟨a, ha, rfl⟩ := mem_at hx
    obtain ⟨b, hb, rfl⟩ := mem_at hy
    obtain ⟨c, hc, rfl⟩ := mem_at hz
    exact (h a ha b hb).2 c hc h1 h2
def TameOut (w : World) (l : List E) (e : Ending) (w' : World) : Prop := ∃ b : Bool, e = .returned (.bool b) ∧ (b = true → Tame (recs l)) ∧ w.grownBy w' none
set_option maxRecDepth 100000 in
set_option maxHeartbeats 4000000 in
theorem tame_any (B n c : Nat) (a : Option Addr) (l : List E) (w : World) (hn : l.length = n) (h : RRow w B a l) (hb : n < 9223372036854775808) :
    Calls Try.prog 10 #[.slice a n c] w (TameOut w l) := by
  have HN := Lib.hid (And.intro hn h)
  obtain ⟨Q, hQ⟩ : ∃ Q, Q = TameOut w l := ⟨_, rfl⟩
  rw [← hQ]
  have HQ : Hid (∀ b w', (b = true → Tame (recs l)) → w.grownBy w' none → Q (.returned (.bool b)) w') := fun b w' h1 h2 => by rw [hQ]; exact ⟨b, rfl, h1, h2⟩
  clear hQ h hn
  go_enter Try.func10, Try.ntmps10
  go_wp2_with fail
  go_loopw [3] (fun v wr => ∃ (i : Nat), i ≤ n ∧ v = .int .i64 i ∧ Hid (w.grownBy wr none ∧ ∀ a, a < i → ∀ b, b < n → okB l a b)) (fun v _ => n - (intOf v).toNat)
  case atStart => exact ⟨0, by omega, rfl, gb_refl _ _, fun a ha => absurd ha (by omega)⟩
  case round =>
    obtain ⟨i, hi, rfl, HI⟩ := hrel
    by_cases hil : i < n
    · have hii : (i : Int) < (n : Int) := by omega
      obtain ⟨pb, po, rfl, hpb, hcs⟩ := HN.out.2.at (by rw [HN.out.1]; omega)
      have HCS := Lib.hid hcs; clear hcs
      go_wp2_with fail
      go_loopw [4] (fun v w3 => ∃ (j : Nat), j ≤ n ∧ v = .int .i64 j ∧ Hid (w.grownBy w3 none ∧ ∀ b, b < j → okB l i b)) (fun v _ => n - (intOf v).toNat)
      case atStart => exact ⟨0, by omega, rfl, HI.out.1, fun b hb => absurd hb (by omega)⟩
      case round =>
        obtain ⟨j, hj, rfl, HJ⟩ := hrel
        by_cases hjl : j < n
        · have hjj : (j : Int) < (n : Int) := by omega
          have HOV : Hid (∀ p q, p < n → q < n → ∀ w', w.grownBy w' none → Calls Try.prog 11 #[recV (l.getD p e0), recV (l.getD q e0)] w' fun e w'' => e = .returned (.bool (overB (l.getD p e0).2 (l.getD q e0).2)) ∧ w'.grownBy w'' none) := fun p q hp hq w' hg => rover_any _ _ B B w' _ _ ((HN.out.2.recs _ (getD_mem (by rw [HN.out.1]; exact hp))).stay hg) ((HN.out.2.recs _ (getD_mem (by rw [HN.out.1]; exact hq))).stay hg)
          have HSM : Hid (∀ w', w.grownBy w' none → Calls Try.prog 12 #[recV (l.getD i e0), recV (l.getD j e0)] w' fun e w'' => e = .returned (.bool (sameB (l.getD i e0).2 (l.getD j e0).2)) ∧ w'.grownBy w'' none) := fun w' hg => sameRec_any _ _ B B w' _ _ ((HN.out.2.recs _ (getD_mem (by rw [HN.out.1]; exact hil))).stay hg) ((HN.out.2.recs _ (getD_mem (by rw [HN.out.1]; exact hjl))).stay hg)
          obtain ⟨bd, hbd⟩ : ∃ bd, bd = badB (l.getD i e0).2 (l.getD j e0).2 := ⟨_, rfl⟩
          obtain ⟨zC, hC⟩ : ∃ z, sameB (l.getD i e0).2 (l.getD j e0).2 = z := ⟨_, rfl⟩
          obtain ⟨zD, hD⟩ : ∃ z, overB (l.getD i e0).2 (l.getD j e0).2 = z := ⟨_, rfl⟩
          obtain ⟨zE, hE⟩ : ∃ z, overB (l.getD j e0).2 (l.getD i e0).2 = z := ⟨_, rfl⟩
          have HFIN : Hid (bd = false → (zD = true → ∀ b, b < n → overB (l.getD j e0).2 (l.getD b e0).2 = true → overB (l.getD i e0).2 (l.getD b e0).2 = true) → ∀ b, b < j + 1 → okB l i b) := by
            intro h1 h2 b hb
            rcases (by omega : b < j ∨ b = j) with hb | rfl
            · exact HJ.out.2 b hb
            · exact ⟨hbd.symm.trans h1, fun c hc e1 e2 => h2 (hD.symm.trans e1) c (by rw [← HN.out.1]; exact hc) e2⟩
          have hx := HCS.out i (by rw [HN.out.1]; exact hil)
          have hy := HCS.out j (by rw [HN.out.1]; exact hjl)
          have ho1 := HOV.out i j hil hjl
          have ho2 := HOV.out j i hjl hil
          have hs := HSM.out
          rw [hD] at ho1
          rw [hE] at ho2
          rw [hC] at hs
          unfold badB at hbd
          rw [hC, hD, hE] at hbd
          clear hC hD hE
          obtain ⟨x, hxe⟩ : ∃ x, x = l.getD i e0 := ⟨_, rfl⟩
          obtain ⟨y, hye⟩ : ∃ y, y = l.getD j e0 := ⟨_, rfl⟩
          simp only [← hxe, ← hye] at hx hy ho1 ho2 hs hbd
          obtain ⟨⟨rs, ra1, rn1, rd1, ra2, rn2, rd2, ra3, rn3, rd3⟩, ⟨rkey, rcl, rsq, rcx, rg, rval, rsig⟩⟩ := x
          obtain ⟨⟨rs', ra1', rn1', rd1', ra2', rn2', rd2', ra3', rn3', rd3'⟩, ⟨rkey', rcl', rsq', rcx', rg', rval', rsig'⟩⟩ := y
          have HXE := Lib.hid hxe
          have HYE := Lib.hid hye
          have HXYS := Lib.hid (fun w' (hg : w.grownBy w' none) => And.intro (cells_of (hx.stay hg)) (cells_of (hy.stay hg)))
          have HS : Hid (∀ w', w.grownBy w' none → Calls Try.prog 12 #[vV rs rcl rsq ra1 rn1 rd1 rg ra2 rn2 rd2 ra3 rn3 rd3, vV rs' rcl' rsq' ra1' rn1' rd1' rg' ra2' rn2' rd2' ra3' rn3' rd3'] w' fun e w'' => e = .returned (.bool zC) ∧ w'.grownBy w'' none) := hs
          have HO1 : Hid (∀ w', w.grownBy w' none → Calls Try.prog 11 #[vV rs rcl rsq ra1 rn1 rd1 rg ra2 rn2 rd2 ra3 rn3 rd3, vV rs' rcl' rsq' ra1' rn1' rd1' rg' ra2' rn2' rd2' ra3' rn3' rd3'] w' fun e w'' => e = .returned (.bool zD) ∧ w'.grownBy w'' none) := ho1
          have HO2 : Hid (∀ w', w.grownBy w' none → Calls Try.prog 11 #[vV rs' rcl' rsq' ra1' rn1' rd1' rg' ra2' rn2' rd2' ra3' rn3' rd3', vV rs rcl rsq ra1 rn1 rd1 rg ra2 rn2 rd2 ra3 rn3 rd3] w' fun e w'' => e = .returned (.bool zE) ∧ w'.grownBy w'' none) := ho2
          clear hx hy hs ho1 ho2 hxe hye
          simp only at hbd
          obtain ⟨w2, hw2⟩ : ∃ w2, w2 = wr := ⟨_, rfl⟩
          have HG2 := Lib.hid HJ.out.1
          have HXY := Lib.hid (HXYS.out wr HG2.out)
          rw [← hw2] at HXY HG2
          obtain ⟨zA, hA⟩ : ∃ z, decide (rcl = rcl') = z := ⟨_, rfl⟩
          obtain ⟨zB, hB0⟩ : ∃ z, decide (rsq = rsq') = z := ⟨_, rfl⟩
          rw [hA, hB0] at hbd
          have HZ1 : Hid (decide (rcl = rcl') = zA ∧ (rcl == rcl') = zA) := ⟨hA, by rw [← hA, Bool.eq_iff_iff]; simp⟩
          have HZ2 : Hid (decide (rsq = rsq') = zB ∧ (rsq == rsq') = zB) := ⟨hB0, by rw [← hB0, Bool.eq_iff_iff]; simp⟩
          clear hA hB0 HJ
          obtain ⟨zU, hzU⟩ : ∃ z, z = (zA && zB) := ⟨_, rfl⟩
          rw [← hzU] at hbd
          obtain ⟨zL, hzL⟩ : ∃ z, z = (zU && !zC) := ⟨_, rfl⟩
          rw [← hzL] at hbd
          have HZU := Lib.hid hzU
          have HZL := Lib.hid hzL
          have HBD := Lib.hid hbd
          clear hzU hzL hbd
          go_wp2_with fail
          rw [← hw2]
          clear hw2
          refine Fg.region_t [] [.any, .any, .any, .any, .any, .any, .any, .any, .any, .any, .any, .any, .any, .any, .any, .any, .any, .any, .val (Value.slice (some ⟨pb, po, none⟩) n c), .val (Value.int .i64 i), .val (Value.pointer (some ⟨pb, po + i * 7, none⟩)), .val (Value.pointer (some ⟨pb, po + i * 7 + 1, none⟩)), .val (iV rcl), .val (Value.slice (some ⟨pb, po, none⟩) n c), .val (Value.int .i64 j), .val (Value.pointer (some ⟨pb, po + j * 7, none⟩)), .val (Value.pointer (some ⟨pb, po + j * 7 + 1, none⟩)), .val (iV rcl'), .val (Value.bool zA), .val (Value.bool zA), (cond zA (.val (Value.slice (some ⟨pb, po, none⟩) n c)) (.val undef)), (cond zA (.val (Value.int .i64 i)) (.val undef)), (cond zA (.val (Value.pointer (some ⟨pb, po + i * 7, none⟩))) (.val undef)), (cond zA (.val (Value.pointer (some ⟨pb, po + i * 7 + 2, none⟩))) (.val undef)), (cond zA (.val (iV rsq)) (.val undef)), (cond zA (.val (Value.slice (some ⟨pb, po, none⟩) n c)) (.val undef)), (cond zA (.val (Value.int .i64 j)) (.val undef)), (cond zA (.val (Value.pointer (some ⟨pb, po + j * 7, none⟩))) (.val undef)), (cond zA (.val (Value.pointer (some ⟨pb, po + j * 7 + 2, none⟩))) (.val undef)), (cond zA (.val (iV rsq')) (.val undef)), (cond zA (.val (Value.bool zB)) (.val undef)), .val (Value.bool zU), .val (Value.bool zU), (cond zU (.val (Value.slice (some ⟨pb, po, none⟩) n c)) (.val undef)), (cond zU (.val (Value.int .i64 i)) (.val undef)), (cond zU (.val (Value.pointer (some ⟨pb, po + i * 7, none⟩))) (.val undef)), (cond zU (.val (vV rs rcl rsq ra1 rn1 rd1 rg ra2 rn2 rd2 ra3 rn3 rd3)) (.val undef)), (cond zU (.val (Value.slice (some ⟨pb, po, none⟩) n c)) (.val undef)), (cond zU (.val (Value.int .i64 j)) (.val undef)), (cond zU (.val (Value.pointer (some ⟨pb, po + j * 7, none⟩))) (.val undef)), (cond zU (.val (vV rs' rcl' rsq' ra1' rn1' rd1' rg' ra2' rn2' rd2' ra3' rn3' rd3')) (.val undef)), (cond zU (.val (Value.bool zC)) (.val undef)), (cond zU ((cond zC (.val (Value.bool false)) (.val (Value.bool true)))) (.val undef)), .val (Value.bool zL), .val (Value.bool zL), (cond zL (.val undef) (.val (Value.slice (some ⟨pb, po, none⟩) n c))), (cond zL (.val undef) (.val (Value.int .i64 i))), (cond zL (.val undef) (.val (Value.pointer (some ⟨pb, po + i * 7, none⟩)))), (cond zL (.val undef) (.val (vV rs rcl rsq ra1 rn1 rd1 rg ra2 rn2 rd2 ra3 rn3 rd3))), (cond zL (.val undef) (.val (Value.slice (some ⟨pb, po, none⟩) n c))), (cond zL (.val undef) (.val (Value.int .i64 j))), (cond zL (.val undef) (.val (Value.pointer (some ⟨pb, po + j * 7, none⟩)))), (cond zL (.val undef) (.val (vV rs' rcl' rsq' ra1' rn1' rd1' rg' ra2' rn2' rd2' ra3' rn3' rd3'))), (cond zL (.val undef) (.val (Value.bool zD))), (cond zL (.val undef) (.val (Value.bool zD))), (cond zL (.val undef) ((cond zD (.val (Value.slice (some ⟨pb, po, none⟩) n c)) (.val undef)))), (cond zL (.val undef) ((cond zD (.val (Value.int .i64 j)) (.val undef)))), (cond zL (.val undef) ((cond zD (.val (Value.pointer (some ⟨pb, po + j * 7, none⟩))) (.val undef)))), (cond zL (.val undef) ((cond zD (.val (vV rs' rcl' rsq' ra1' rn1' rd1' rg' ra2' rn2' rd2' ra3' rn3' rd3')) (.val undef)))), (cond zL (.val undef) ((cond zD (.val (Value.slice (some ⟨pb, po, none⟩) n c)) (.val undef)))), (cond zL (.val undef) ((cond zD (.val (Value.int .i64 i)) (.val undef)))), (cond zL (.val undef) ((cond zD (.val (Value.pointer (some ⟨pb, po + i * 7, none⟩))) (.val undef)))), (cond zL (.val undef) ((cond zD (.val (vV rs rcl rsq ra1 rn1 rd1 rg ra2 rn2 rd2 ra3 rn3 rd3)) (.val undef)))), (cond zL (.val undef) ((cond zD (.val (Value.bool zE)) (.val undef)))), (cond zL (.val undef) ((cond zD (.val (Value.bool zE)) (.val (Value.bool false))))), .val (Value.bool bd)] w2 58 (gb_refl _ _) (by kernel_rfl) (by kernel_rfl) (by kernel_rfl) (by kernel_rfl) (by decide) (by kernel_rfl) ?_ ?_
          · refine ⟨Fg.vT rfl (by decide) fun ac w h => ?_, ?_⟩
            · have e0 : ac.tmps.getD 0 undef = Value.slice (some ⟨pb, po, none⟩) n c := h.rest 0 (by kernel_rfl)
              exact ⟨_, w, wants_none rfl, Fg.run_move rfl e0, gb_refl _ _, rfl⟩
            refine ⟨Fg.vT rfl (by decide) fun ac w h => ?_, ?_⟩
            · have e3 : ac.tmps.getD 3 undef = Value.int .i64 i := h.rest 3 (by kernel_rfl)
              exact ⟨_, w, wants_none rfl, Fg.run_move rfl e3, gb_refl _ _, rfl⟩
            refine ⟨Fg.vT rfl (by decide) fun ac w h => ?_, ?_⟩
            · have e18 : ac.tmps.getD 18 undef = Value.slice (some ⟨pb, po, none⟩) n c := h.dep 18 (by kernel_rfl)
              have e19 : ac.tmps.getD 19 undef = Value.int .i64 i := h.dep 19 (by kernel_rfl)
              have i0 : (i : Int) < (n : Int) := by omega
              refine ⟨.pointer (some ⟨pb, po + i * 7, none⟩), w, wants_none rfl, ?_, gb_refl _ _, rfl⟩
              clear h
              simp only [execOp, Act.eval, e18, e19]
              go_simp
            refine ⟨Fg.vT rfl (by decide) fun ac w h => ?_, ?_⟩
            · have e20 : ac.tmps.getD 20 undef = Value.pointer (some ⟨pb, po + i * 7, none⟩) := h.dep 20 (by kernel_rfl)
              refine ⟨Value.pointer (some ⟨pb, po + i * 7 + 1, none⟩), w, wants_none rfl, ?_, gb_refl _ _, rfl⟩
              clear h
              simp only [execOp, Act.eval, e20]
              go_simp
            refine ⟨Fg.vT rfl (by decide) fun ac w h => ?_, ?_⟩
            · have e21 : ac.tmps.getD 21 undef = Value.pointer (some ⟨pb, po + i * 7 + 1, none⟩) := h.dep 21 (by kernel_rfl)
              have y0 : w.cell? ⟨pb, po + i * 7 + 1, none⟩ = some (iV rcl) := by rw [gb_cell h.base (block_lt_of_cell (HXY.out.1.2.1)) (by simp)]; exact HXY.out.1.2.1
              refine ⟨iV rcl, w, wants_none rfl, ?_, gb_refl _ _, rfl⟩
              clear h
              simp only [execOp, Act.eval, e21]
              go_simp
            refine ⟨Fg.vT rfl (by decide) fun ac w h => ?_, ?_⟩
            · have e0 : ac.tmps.getD 0 undef = Value.slice (some ⟨pb, po, none⟩) n c := h.rest 0 (by kernel_rfl)
              exact ⟨_, w, wants_none rfl, Fg.run_move rfl e0, gb_refl _ _, rfl⟩
            refine ⟨Fg.vT rfl (by decide) fun ac w h => ?_, ?_⟩
            · have e4 : ac.tmps.getD 4 undef = Value.int .i64 j := h.rest 4 (by kernel_rfl)
              exact ⟨_, w, wants_none rfl, Fg.run_move rfl e4, gb_refl _ _, rfl⟩
            refine ⟨Fg.vT rfl (by decide) fun ac w h => ?_, ?_⟩
            · have e23 : ac.tmps.getD 23 undef = Value.slice (some ⟨pb, po, none⟩) n c := h.dep 23 (by kernel_rfl)
              have e24 : ac.tmps.getD 24 undef = Value.int .i64 j := h.dep 24 (by kernel_rfl)
              have i0 : (j : Int) < (n : Int) := by omega
              refine ⟨.pointer (some ⟨pb, po + j * 7, none⟩), w, wants_none rfl, ?_, gb_refl _ _, rfl⟩
              clear h
              simp only [execOp, Act.eval, e23, e24]
              go_simp
            refine ⟨Fg.vT rfl (by decide) fun ac w h => ?_, ?_⟩
            · have e25 : ac.tmps.getD 25 undef = Value.pointer (some ⟨pb, po + j * 7, none⟩) := h.dep 25 (by kernel_rfl)
              refine ⟨Value.pointer (some ⟨pb, po + j * 7 + 1, none⟩), w, wants_none rfl, ?_, gb_refl _ _, rfl⟩
              clear h
              simp only [execOp, Act.eval, e25]
              go_simp
            refine ⟨Fg.vT rfl (by decide) fun ac w h => ?_, ?_⟩
            · have e26 : ac.tmps.getD 26 undef = Value.pointer (some ⟨pb, po + j * 7 + 1, none⟩) := h.dep 26 (by kernel_rfl)
              have y0 : w.cell? ⟨pb, po + j * 7 + 1, none⟩ = some (iV rcl') := by rw [gb_cell h.base (block_lt_of_cell (HXY.out.2.2.1)) (by simp)]; exact HXY.out.2.2.1
              refine ⟨iV rcl', w, wants_none rfl, ?_, gb_refl _ _, rfl⟩
              clear h
              simp only [execOp, Act.eval, e26]
              go_simp
            refine ⟨Fg.vT rfl (by decide) fun ac w h => ?_, ?_⟩
            · have e22 : ac.tmps.getD 22 undef = iV rcl := h.dep 22 (by kernel_rfl)
              have e27 : ac.tmps.getD 27 undef = iV rcl' := h.dep 27 (by kernel_rfl)
              have q1 := HZ1.out.1
              have q2 := HZ1.out.2
              refine ⟨.bool zA, w, wants_none rfl, ?_, gb_refl _ _, rfl⟩
              clear h
              simp only [execOp, Act.eval, e22, e27]
              go_simp
            refine ⟨Fg.vT rfl (by decide) fun ac w h => ?_, ?_⟩
            · have e28 : ac.tmps.getD 28 undef = Value.bool zA := h.dep 28 (by kernel_rfl)
              exact ⟨_, w, wants_none rfl, Fg.run_move rfl e28, gb_refl _ _, rfl⟩
            refine ⟨?_, ?_⟩
            · cases zA with
              | false =>
                refine Fg.sT rfl (by decide) (fun _ => rfl) fun ac w h => ?_
                have e29 : ac.tmps.getD 29 undef = Value.bool false := h.dep 29 (by kernel_rfl)
                exact not_wants (d := 29) rfl rfl (by rw [h.size]; show 29 < 114; decide) e29 (by decide)
              | true =>
                refine Fg.vT rfl (by decide) fun ac w h => ?_
                have e29 : ac.tmps.getD 29 undef = Value.bool true := h.dep 29 (by kernel_rfl)
                have e0 : ac.tmps.getD 0 undef = Value.slice (some ⟨pb, po, none⟩) n c := h.rest 0 (by kernel_rfl)
                exact ⟨_, w, wants_some (d := 29) rfl rfl (by rw [h.size]; show 29 < 114; decide) e29, Fg.run_move rfl e0, gb_refl _ _, rfl⟩
            refine ⟨?_, ?_⟩
            · cases zA with
              | false =>
                refine Fg.sT rfl (by decide) (fun _ => rfl) fun ac w h => ?_
                have e29 : ac.tmps.getD 29 undef = Value.bool false := h.dep 29 (by kernel_rfl)
                exact not_wants (d := 29) rfl rfl (by rw [h.size]; show 29 < 114; decide) e29 (by decide)
              | true =>
                refine Fg.vT rfl (by decide) fun ac w h => ?_
                have e29 : ac.tmps.getD 29 undef = Value.bool true := h.dep 29 (by kernel_rfl)
                have e3 : ac.tmps.getD 3 undef = Value.int .i64 i := h.rest 3 (by kernel_rfl)
                exact ⟨_, w, wants_some (d := 29) rfl rfl (by rw [h.size]; show 29 < 114; decide) e29, Fg.run_move rfl e3, gb_refl _ _, rfl⟩
            refine ⟨?_, ?_⟩
            · cases zA with
              | false =>
                refine Fg.sT rfl (by decide) (fun _ => rfl) fun ac w h => ?_
                have e29 : ac.tmps.getD 29 undef = Value.bool false := h.dep 29 (by kernel_rfl)
                exact not_wants (d := 29) rfl rfl (by rw [h.size]; show 29 < 114; decide) e29 (by decide)
              | true =>
                refine Fg.vT rfl (by decide) fun ac w h => ?_
                have e29 : ac.tmps.getD 29 undef = Value.bool true := h.dep 29 (by kernel_rfl)
                have e30 : ac.tmps.getD 30 undef = Value.slice (some ⟨pb, po, none⟩) n c := h.dep 30 (by kernel_rfl)
                have e31 : ac.tmps.getD 31 undef = Value.int .i64 i := h.dep 31 (by kernel_rfl)
                have i0 : (i : Int) < (n : Int) := by omega
                refine ⟨.pointer (some ⟨pb, po + i * 7, none⟩), w, wants_some (d := 29) rfl rfl (by rw [h.size]; show 29 < 114; decide) e29, ?_, gb_refl _ _, rfl⟩
                clear h
                simp only [execOp, Act.eval, e30, e31]
                go_simp
            refine ⟨?_, ?_⟩
            · cases zA with
              | false =>
                refine Fg.sT rfl (by decide) (fun _ => rfl) fun ac w h => ?_
                have e29 : ac.tmps.getD 29 undef = Value.bool false := h.dep 29 (by kernel_rfl)
                exact not_wants (d := 29) rfl rfl (by rw [h.size]; show 29 < 114; decide) e29 (by decide)
              | true =>
                refine Fg.vT rfl (by decide) fun ac w h => ?_
                have e29 : ac.tmps.getD 29 undef = Value.bool true := h.dep 29 (by kernel_rfl)
                have e32 : ac.tmps.getD 32 undef = Value.pointer (some ⟨pb, po + i * 7, none⟩) := h.dep 32 (by kernel_rfl)
                refine ⟨Value.pointer (some ⟨pb, po + i * 7 + 2, none⟩), w, wants_some (d := 29) rfl rfl (by rw [h.size]; show 29 < 114; decide) e29, ?_, gb_refl _ _, rfl⟩
                clear h
                simp only [execOp, Act.eval, e32]
                go_simp
            refine ⟨?_, ?_⟩
            · cases zA with
              | false =>
                refine Fg.sT rfl (by decide) (fun _ => rfl) fun ac w h => ?_
                have e29 : ac.tmps.getD 29 undef = Value.bool false := h.dep 29 (by kernel_rfl)
                exact not_wants (d := 29) rfl rfl (by rw [h.size]; show 29 < 114; decide) e29 (by decide)
              | true =>
                refine Fg.vT rfl (by decide) fun ac w h => ?_
                have e29 : ac.tmps.getD 29 undef = Value.bool true := h.dep 29 (by kernel_rfl)
                have e33 : ac.tmps.getD 33 undef = Value.pointer (some ⟨pb, po + i * 7 + 2, none⟩) := h.dep 33 (by kernel_rfl)
                have y0 : w.cell? ⟨pb, po + i * 7 + 2, none⟩ = some (iV rsq) := by rw [gb_cell h.base (block_lt_of_cell (HXY.out.1.2.2.1)) (by simp)]; exact HXY.out.1.2.2.1
                refine ⟨iV rsq, w, wants_some (d := 29) rfl rfl (by rw [h.size]; show 29 < 114; decide) e29, ?_, gb_refl _ _, rfl⟩
                clear h
                simp only [execOp, Act.eval, e33]
                go_simp
            refine ⟨?_, ?_⟩
            · cases zA with
              | false =>
                refine Fg.sT rfl (by decide) (fun _ => rfl) fun ac w h => ?_
                have e29 : ac.tmps.getD 29 undef = Value.bool false := h.dep 29 (by kernel_rfl)
                exact not_wants (d := 29) rfl rfl (by rw [h.size]; show 29 < 114; decide) e29 (by decide)
              | true =>
                refine Fg.vT rfl (by decide) fun ac w h => ?_
                have e29 : ac.tmps.getD 29 undef = Value.bool true := h.dep 29 (by kernel_rfl)
                have e0 : ac.tmps.getD 0 undef = Value.slice (some ⟨pb, po, none⟩) n c := h.rest 0 (by kernel_rfl)
                exact ⟨_, w, wants_some (d := 29) rfl rfl (by rw [h.size]; show 29 < 114; decide) e29, Fg.run_move rfl e0, gb_refl _ _, rfl⟩
            refine ⟨?_, ?_⟩
            · cases zA with
              | false =>
                refine Fg.sT rfl (by decide) (fun _ => rfl) fun ac w h => ?_
                have e29 : ac.tmps.getD 29 undef = Value.bool false := h.dep 29 (by kernel_rfl)
                exact not_wants (d := 29) rfl rfl (by rw [h.size]; show 29 < 114; decide) e29 (by decide)
              | true =>
                refine Fg.vT rfl (by decide) fun ac w h => ?_
                have e29 : ac.tmps.getD 29 undef = Value.bool true := h.dep 29 (by kernel_rfl)
                have e4 : ac.tmps.getD 4 undef = Value.int .i64 j := h.rest 4 (by kernel_rfl)
                exact ⟨_, w, wants_some (d := 29) rfl rfl (by rw [h.size]; show 29 < 114; decide) e29, Fg.run_move rfl e4, gb_refl _ _, rfl⟩
            refine ⟨?_, ?_⟩
            · cases zA with
              | false =>
                refine Fg.sT rfl (by decide) (fun _ => rfl) fun ac w h => ?_
                have e29 : ac.tmps.getD 29 undef = Value.bool false := h.dep 29 (by kernel_rfl)
                exact not_wants (d := 29) rfl rfl (by rw [h.size]; show 29 < 114; decide) e29 (by decide)
              | true =>
                refine Fg.vT rfl (by decide) fun ac w h => ?_
                have e29 : ac.tmps.getD 29 undef = Value.bool true := h.dep 29 (by kernel_rfl)
                have e35 : ac.tmps.getD 35 undef = Value.slice (some ⟨pb, po, none⟩) n c := h.dep 35 (by kernel_rfl)
                have e36 : ac.tmps.getD 36 undef = Value.int .i64 j := h.dep 36 (by kernel_rfl)
                have i0 : (j : Int) < (n : Int) := by omega
                refine ⟨.pointer (some ⟨pb, po + j * 7, none⟩), w, wants_some (d := 29) rfl rfl (by rw [h.size]; show 29 < 114; decide) e29, ?_, gb_refl _ _, rfl⟩
                clear h
                simp only [execOp, Act.eval, e35, e36]
                go_simp
            refine ⟨?_, ?_⟩
            · cases zA with
              | false =>
                refine Fg.sT rfl (by decide) (fun _ => rfl) fun ac w h => ?_
                have e29 : ac.tmps.getD 29 undef = Value.bool false := h.dep 29 (by kernel_rfl)
                exact not_wants (d := 29) rfl rfl (by rw [h.size]; show 29 < 114; decide) e29 (by decide)
              | true =>
                refine Fg.vT rfl (by decide) fun ac w h => ?_
                have e29 : ac.tmps.getD 29 undef = Value.bool true := h.dep 29 (by kernel_rfl)
                have e37 : ac.tmps.getD 37 undef = Value.pointer (some ⟨pb, po + j * 7, none⟩) := h.dep 37 (by kernel_rfl)
                refine ⟨Value.pointer (some ⟨pb, po + j * 7 + 2, none⟩), w, wants_some (d := 29) rfl rfl (by rw [h.size]; show 29 < 114; decide) e29, ?_, gb_refl _ _, rfl⟩
                clear h
                simp only [execOp, Act.eval, e37]
                go_simp
            refine ⟨?_, ?_⟩
            · cases zA with
              | false =>
                refine Fg.sT rfl (by decide) (fun _ => rfl) fun ac w h => ?_
                have e29 : ac.tmps.getD 29 undef = Value.bool false := h.dep 29 (by kernel_rfl)
                exact not_wants (d := 29) rfl rfl (by rw [h.size]; show 29 < 114; decide) e29 (by decide)
              | true =>
                refine Fg.vT rfl (by decide) fun ac w h => ?_
                have e29 : ac.tmps.getD 29 undef = Value.bool true := h.dep 29 (by kernel_rfl)
                have e38 : ac.tmps.getD 38 undef = Value.pointer (some ⟨pb, po + j * 7 + 2, none⟩) := h.dep 38 (by kernel_rfl)
                have y0 : w.cell? ⟨pb, po + j * 7 + 2, none⟩ = some (iV rsq') := by rw [gb_cell h.base (block_lt_of_cell (HXY.out.2.2.2.1)) (by simp)]; exact HXY.out.2.2.2.1
                refine ⟨iV rsq', w, wants_some (d := 29) rfl rfl (by rw [h.size]; show 29 < 114; decide) e29, ?_, gb_refl _ _, rfl⟩
                clear h
                simp only [execOp, Act.eval, e38]
                go_simp
            refine ⟨?_, ?_⟩
            · cases zA with
              | false =>
                refine Fg.sT rfl (by decide) (fun _ => rfl) fun ac w h => ?_
                have e29 : ac.tmps.getD 29 undef = Value.bool false := h.dep 29 (by kernel_rfl)
                exact not_wants (d := 29) rfl rfl (by rw [h.size]; show 29 < 114; decide) e29 (by decide)
              | true =>
                refine Fg.vT rfl (by decide) fun ac w h => ?_
                have e29 : ac.tmps.getD 29 undef = Value.bool true := h.dep 29 (by kernel_rfl)
                have e34 : ac.tmps.getD 34 undef = iV rsq := h.dep 34 (by kernel_rfl)
                have e39 : ac.tmps.getD 39 undef = iV rsq' := h.dep 39 (by kernel_rfl)
                have q1 := HZ2.out.1
                have q2 := HZ2.out.2
                refine ⟨.bool zB, w, wants_some (d := 29) rfl rfl (by rw [h.size]; show 29 < 114; decide) e29, ?_, gb_refl _ _, rfl⟩
                clear h
                simp only [execOp, Act.eval, e34, e39]
                go_simp
            refine ⟨?_, ?_⟩
            · cases zA with
              | false =>
                refine Fg.vT rfl (by decide) fun ac w h => ?_
                obtain rfl : zU = false := HZU.out
                have e29 : ac.tmps.getD 29 undef = Value.bool false := h.dep 29 (by kernel_rfl)
                refine ⟨Value.bool false, w, wants_none rfl, ?_, gb_refl _ _, rfl⟩
                clear h
                simp only [execOp, Act.eval, e29]
                go_simp
              | true =>
                cases zB with
                | false =>
                  refine Fg.vT rfl (by decide) fun ac w h => ?_
                  obtain rfl : zU = false := HZU.out
                  have e29 : ac.tmps.getD 29 undef = Value.bool true := h.dep 29 (by kernel_rfl)
                  have e40 : ac.tmps.getD 40 undef = Value.bool false := h.dep 40 (by kernel_rfl)
                  refine ⟨Value.bool false, w, wants_none rfl, ?_, gb_refl _ _, rfl⟩
                  clear h
                  simp only [execOp, Act.eval, e29, e40]
                  go_simp
                | true =>
                  refine Fg.vT rfl (by decide) fun ac w h => ?_
                  obtain rfl : zU = true := HZU.out
                  have e29 : ac.tmps.getD 29 undef = Value.bool true := h.dep 29 (by kernel_rfl)
                  have e40 : ac.tmps.getD 40 undef = Value.bool true := h.dep 40 (by kernel_rfl)
                  refine ⟨Value.bool true, w, wants_none rfl, ?_, gb_refl _ _, rfl⟩
                  clear h
                  simp only [execOp, Act.eval, e29, e40]
                  go_simp
            refine ⟨Fg.vT rfl (by decide) fun ac w h => ?_, ?_⟩
            · have e41 : ac.tmps.getD 41 undef = Value.bool zU := h.dep 41 (by kernel_rfl)
              exact ⟨_, w, wants_none rfl, Fg.run_move rfl e41, gb_refl _ _, rfl⟩
            refine ⟨?_, ?_⟩
            · cases zU with
              | false =>
                refine Fg.sT rfl (by decide) (fun _ => rfl) fun ac w h => ?_
                have e42 : ac.tmps.getD 42 undef = Value.bool false := h.dep 42 (by kernel_rfl)
                exact not_wants (d := 42) rfl rfl (by rw [h.size]; show 42 < 114; decide) e42 (by decide)
              | true =>
                refine Fg.vT rfl (by decide) fun ac w h => ?_
                have e42 : ac.tmps.getD 42 undef = Value.bool true := h.dep 42 (by kernel_rfl)
                have e0 : ac.tmps.getD 0 undef = Value.slice (some ⟨pb, po, none⟩) n c := h.rest 0 (by kernel_rfl)
                exact ⟨_, w, wants_some (d := 42) rfl rfl (by rw [h.size]; show 42 < 114; decide) e42, Fg.run_move rfl e0, gb_refl _ _, rfl⟩
            refine ⟨?_, ?_⟩
            · cases zU with
              | false =>
                refine Fg.sT rfl (by decide) (fun _ => rfl) fun ac w h => ?_
                have e42 : ac.tmps.getD 42 undef = Value.bool false := h.dep 42 (by kernel_rfl)
                exact not_wants (d := 42) rfl rfl (by rw [h.size]; show 42 < 114; decide) e42 (by decide)
              | true =>
                refine Fg.vT rfl (by decide) fun ac w h => ?_
                have e42 : ac.tmps.getD 42 undef = Value.bool true := h.dep 42 (by kernel_rfl)
                have e3 : ac.tmps.getD 3 undef = Value.int .i64 i := h.rest 3 (by kernel_rfl)
                exact ⟨_, w, wants_some (d := 42) rfl rfl (by rw [h.size]; show 42 < 114; decide) e42, Fg.run_move rfl e3, gb_refl _ _, rfl⟩
            refine ⟨?_, ?_⟩
            · cases zU with
              | false =>
                refine Fg.sT rfl (by decide) (fun _ => rfl) fun ac w h => ?_
                have e42 : ac.tmps.getD 42 undef = Value.bool false := h.dep 42 (by kernel_rfl)
                exact not_wants (d := 42) rfl rfl (by rw [h.size]; show 42 < 114; decide) e42 (by decide)
              | true =>
                refine Fg.vT rfl (by decide) fun ac w h => ?_
                have e42 : ac.tmps.getD 42 undef = Value.bool true := h.dep 42 (by kernel_rfl)
                have e43 : ac.tmps.getD 43 undef = Value.slice (some ⟨pb, po, none⟩) n c := h.dep 43 (by kernel_rfl)
                have e44 : ac.tmps.getD 44 undef = Value.int .i64 i := h.dep 44 (by kernel_rfl)
                have i0 : (i : Int) < (n : Int) := by omega
                refine ⟨.pointer (some ⟨pb, po + i * 7, none⟩), w, wants_some (d := 42) rfl rfl (by rw [h.size]; show 42 < 114; decide) e42, ?_, gb_refl _ _, rfl⟩
                clear h
                simp only [execOp, Act.eval, e43, e44]
                go_simp
            refine ⟨?_, ?_⟩
            · cases zU with
              | false =>
                refine Fg.sT rfl (by decide) (fun _ => rfl) fun ac w h => ?_
                have e42 : ac.tmps.getD 42 undef = Value.bool false := h.dep 42 (by kernel_rfl)
                exact not_wants (d := 42) rfl rfl (by rw [h.size]; show 42 < 114; decide) e42 (by decide)
              | true =>
                refine Fg.vT rfl (by decide) fun ac w h => ?_
                have e42 : ac.tmps.getD 42 undef = Value.bool true := h.dep 42 (by kernel_rfl)
                have e45 : ac.tmps.getD 45 undef = Value.pointer (some ⟨pb, po + i * 7, none⟩) := h.dep 45 (by kernel_rfl)
                have m0 : w.cell? ⟨pb, po + i * 7 , none⟩ = some (.string rs) := by rw [gb_cell h.base (block_lt_of_cell (HXY.out.1.1)) (by simp)]; exact HXY.out.1.1
                have m1 : w.cell? ⟨pb, po + i * 7 + 1, none⟩ = some (iV rcl) := by rw [gb_cell h.base (block_lt_of_cell (HXY.out.1.2.1)) (by simp)]; exact HXY.out.1.2.1
                have m2 : w.cell? ⟨pb, po + i * 7 + 2, none⟩ = some (iV rsq) := by rw [gb_cell h.base (block_lt_of_cell (HXY.out.1.2.2.1)) (by simp)]; exact HXY.out.1.2.2.1
                have m3 : w.cell? ⟨pb, po + i * 7 + 3, none⟩ = some (.slice ra1 rn1 rd1) := by rw [gb_cell h.base (block_lt_of_cell (HXY.out.1.2.2.2.1)) (by simp)]; exact HXY.out.1.2.2.2.1
                have m4 : w.cell? ⟨pb, po + i * 7 + 4, none⟩ = some (.bool rg) := by rw [gb_cell h.base (block_lt_of_cell (HXY.out.1.2.2.2.2.1)) (by simp)]; exact HXY.out.1.2.2.2.2.1
                have m5 : w.cell? ⟨pb, po + i * 7 + 5, none⟩ = some (.slice ra2 rn2 rd2) := by rw [gb_cell h.base (block_lt_of_cell (HXY.out.1.2.2.2.2.2.1)) (by simp)]; exact HXY.out.1.2.2.2.2.2.1
                have m6 : w.cell? ⟨pb, po + i * 7 + 6, none⟩ = some (.slice ra3 rn3 rd3) := by rw [gb_cell h.base (block_lt_of_cell (HXY.out.1.2.2.2.2.2.2)) (by simp)]; exact HXY.out.1.2.2.2.2.2.2
                refine ⟨vV rs rcl rsq ra1 rn1 rd1 rg ra2 rn2 rd2 ra3 rn3 rd3, w, wants_some (d := 42) rfl rfl (by rw [h.size]; show 42 < 114; decide) e42, ?_, gb_refl _ _, rfl⟩
                clear h
                simp only [execOp, Act.eval, e45]
                go_simp
            refine ⟨?_, ?_⟩
            · cases zU with
              | false =>
                refine Fg.sT rfl (by decide) (fun _ => rfl) fun ac w h => ?_
                have e42 : ac.tmps.getD 42 undef = Value.bool false := h.dep 42 (by kernel_rfl)
                exact not_wants (d := 42) rfl rfl (by rw [h.size]; show 42 < 114; decide) e42 (by decide)
              | true =>
                refine Fg.vT rfl (by decide) fun ac w h => ?_
                have e42 : ac.tmps.getD 42 undef = Value.bool true := h.dep 42 (by kernel_rfl)
                have e0 : ac.tmps.getD 0 undef = Value.slice (some ⟨pb, po, none⟩) n c := h.rest 0 (by kernel_rfl)
                exact ⟨_, w, wants_some (d := 42) rfl rfl (by rw [h.size]; show 42 < 114; decide) e42, Fg.run_move rfl e0, gb_refl _ _, rfl⟩
            refine ⟨?_, ?_⟩
            · cases zU with
              | false =>
                refine Fg.sT rfl (by decide) (fun _ => rfl) fun ac w h => ?_
                have e42 : ac.tmps.getD 42 undef = Value.bool false := h.dep 42 (by kernel_rfl)
                exact not_wants (d := 42) rfl rfl (by rw [h.size]; show 42 < 114; decide) e42 (by decide)
              | true =>
                refine Fg.vT rfl (by decide) fun ac w h => ?_
                have e42 : ac.tmps.getD 42 undef = Value.bool true := h.dep 42 (by kernel_rfl)
                have e4 : ac.tmps.getD 4 undef = Value.int .i64 j := h.rest 4 (by kernel_rfl)
                exact ⟨_, w, wants_some (d := 42) rfl rfl (by rw [h.size]; show 42 < 114; decide) e42, Fg.run_move rfl e4, gb_refl _ _, rfl⟩
            refine ⟨?_, ?_⟩
            · cases zU with
              | false =>
                refine Fg.sT rfl (by decide) (fun _ => rfl) fun ac w h => ?_
                have e42 : ac.tmps.getD 42 undef = Value.bool false := h.dep 42 (by kernel_rfl)
                exact not_wants (d := 42) rfl rfl (by rw [h.size]; show 42 < 114; decide) e42 (by decide)
              | true =>
                refine Fg.vT rfl (by decide) fun ac w h => ?_
                have e42 : ac.tmps.getD 42 undef = Value.bool true := h.dep 42 (by kernel_rfl)
                have e47 : ac.tmps.getD 47 undef = Value.slice (some ⟨pb, po, none⟩) n c := h.dep 47 (by kernel_rfl)
                have e48 : ac.tmps.getD 48 undef = Value.int .i64 j := h.dep 48 (by kernel_rfl)
                have i0 : (j : Int) < (n : Int) := by omega
                refine ⟨.pointer (some ⟨pb, po + j * 7, none⟩), w, wants_some (d := 42) rfl rfl (by rw [h.size]; show 42 < 114; decide) e42, ?_, gb_refl _ _, rfl⟩
                clear h
                simp only [execOp, Act.eval, e47, e48]
                go_simp
            refine ⟨?_, ?_⟩
            · cases zU with
              | false =>
                refine Fg.sT rfl (by decide) (fun _ => rfl) fun ac w h => ?_
                have e42 : ac.tmps.getD 42 undef = Value.bool false := h.dep 42 (by kernel_rfl)
                exact not_wants (d := 42) rfl rfl (by rw [h.size]; show 42 < 114; decide) e42 (by decide)
              | true =>
                refine Fg.vT rfl (by decide) fun ac w h => ?_
                have e42 : ac.tmps.getD 42 undef = Value.bool true := h.dep 42 (by kernel_rfl)
                have e49 : ac.tmps.getD 49 undef = Value.pointer (some ⟨pb, po + j * 7, none⟩) := h.dep 49 (by kernel_rfl)
                have m0 : w.cell? ⟨pb, po + j * 7 , none⟩ = some (.string rs') := by rw [gb_cell h.base (block_lt_of_cell (HXY.out.2.1)) (by simp)]; exact HXY.out.2.1
                have m1 : w.cell? ⟨pb, po + j * 7 + 1, none⟩ = some (iV rcl') := by rw [gb_cell h.base (block_lt_of_cell (HXY.out.2.2.1)) (by simp)]; exact HXY.out.2.2.1
                have m2 : w.cell? ⟨pb, po + j * 7 + 2, none⟩ = some (iV rsq') := by rw [gb_cell h.base (block_lt_of_cell (HXY.out.2.2.2.1)) (by simp)]; exact HXY.out.2.2.2.1
                have m3 : w.cell? ⟨pb, po + j * 7 + 3, none⟩ = some (.slice ra1' rn1' rd1') := by rw [gb_cell h.base (block_lt_of_cell (HXY.out.2.2.2.2.1)) (by simp)]; exact HXY.out.2.2.2.2.1
                have m4 : w.cell? ⟨pb, po + j * 7 + 4, none⟩ = some (.bool rg') := by rw [gb_cell h.base (block_lt_of_cell (HXY.out.2.2.2.2.2.1)) (by simp)]; exact HXY.out.2.2.2.2.2.1
                have m5 : w.cell? ⟨pb, po + j * 7 + 5, none⟩ = some (.slice ra2' rn2' rd2') := by rw [gb_cell h.base (block_lt_of_cell (HXY.out.2.2.2.2.2.2.1)) (by simp)]; exact HXY.out.2.2.2.2.2.2.1
                have m6 : w.cell? ⟨pb, po + j * 7 + 6, none⟩ = some (.slice ra3' rn3' rd3') := by rw [gb_cell h.base (block_lt_of_cell (HXY.out.2.2.2.2.2.2.2)) (by simp)]; exact HXY.out.2.2.2.2.2.2.2
                refine ⟨vV rs' rcl' rsq' ra1' rn1' rd1' rg' ra2' rn2' rd2' ra3' rn3' rd3', w, wants_some (d := 42) rfl rfl (by rw [h.size]; show 42 < 114; decide) e42, ?_, gb_refl _ _, rfl⟩
                clear h
                simp only [execOp, Act.eval, e49]
                go_simp
            refine ⟨?_, ?_⟩
            · cases zU with
              | false =>
                refine Fg.sT rfl (by decide) (fun _ => rfl) fun ac w h => ?_
                have e42 : ac.tmps.getD 42 undef = Value.bool false := h.dep 42 (by kernel_rfl)
                exact not_wants (d := 42) rfl rfl (by rw [h.size]; show 42 < 114; decide) e42 (by decide)
              | true =>
                refine Fg.cT rfl (by decide) fun ac w h => ?_
                have e42 : ac.tmps.getD 42 undef = Value.bool true := h.dep 42 (by kernel_rfl)
                have e46 : ac.tmps.getD 46 undef = vV rs rcl rsq ra1 rn1 rd1 rg ra2 rn2 rd2 ra3 rn3 rd3 := h.dep 46 (by kernel_rfl)
                have e50 : ac.tmps.getD 50 undef = vV rs' rcl' rsq' ra1' rn1' rd1' rg' ra2' rn2' rd2' ra3' rn3' rd3' := h.dep 50 (by kernel_rfl)
                refine ⟨12, #[vV rs rcl rsq ra1 rn1 rd1 rg ra2 rn2 rd2 ra3 rn3 rd3, vV rs' rcl' rsq' ra1' rn1' rd1' rg' ra2' rn2' rd2' ra3' rn3' rd3'], wants_some (d := 42) rfl rfl (by rw [h.size]; show 42 < 114; decide) e42, Fg.run_call rfl rfl (by simp only [List.map_toArray, List.map_cons, List.map_nil, Act.eval, e46, e50]) (Fg.run_enter Try.func12 (by kernel_rfl) (by kernel_rfl)), ?_⟩
                exact (HS.out w (gb_trans HG2.out h.base)).mono fun _ _ ⟨he, hg⟩ => ⟨_, he, hg, rfl⟩
            refine ⟨?_, ?_⟩
            · cases zU with
              | false =>
                refine Fg.sT rfl (by decide) (fun _ => rfl) fun ac w h => ?_
                have e42 : ac.tmps.getD 42 undef = Value.bool false := h.dep 42 (by kernel_rfl)
                exact not_wants (d := 42) rfl rfl (by rw [h.size]; show 42 < 114; decide) e42 (by decide)
              | true =>
                cases zC with
                | false =>
                  refine Fg.vT rfl (by decide) fun ac w h => ?_
                  have e42 : ac.tmps.getD 42 undef = Value.bool true := h.dep 42 (by kernel_rfl)
                  have e51 : ac.tmps.getD 51 undef = Value.bool false := h.dep 51 (by kernel_rfl)
                  refine ⟨Value.bool true, w, wants_some (d := 42) rfl rfl (by rw [h.size]; show 42 < 114; decide) e42, ?_, gb_refl _ _, rfl⟩
                  clear h
                  simp only [execOp, Act.eval, e51]
                  go_simp
                | true =>
                  refine Fg.vT rfl (by decide) fun ac w h => ?_
                  have e42 : ac.tmps.getD 42 undef = Value.bool true := h.dep 42 (by kernel_rfl)
                  have e51 : ac.tmps.getD 51 undef = Value.bool true := h.dep 51 (by kernel_rfl)
                  refine ⟨Value.bool false, w, wants_some (d := 42) rfl rfl (by rw [h.size]; show 42 < 114; decide) e42, ?_, gb_refl _ _, rfl⟩
                  clear h
                  simp only [execOp, Act.eval, e51]
                  go_simp
            refine ⟨?_, ?_⟩
            · cases zU with
              | false =>
                refine Fg.vT rfl (by decide) fun ac w h => ?_
                obtain rfl : zL = false := HZL.out
                have e42 : ac.tmps.getD 42 undef = Value.bool false := h.dep 42 (by kernel_rfl)
                refine ⟨Value.bool false, w, wants_none rfl, ?_, gb_refl _ _, rfl⟩
                clear h
                simp only [execOp, Act.eval, e42]
                go_simp
              | true =>
                cases zC with
                | false =>
                  refine Fg.vT rfl (by decide) fun ac w h => ?_
                  obtain rfl : zL = true := HZL.out
                  have e42 : ac.tmps.getD 42 undef = Value.bool true := h.dep 42 (by kernel_rfl)
                  have e52 : ac.tmps.getD 52 undef = Value.bool true := h.dep 52 (by kernel_rfl)
                  refine ⟨Value.bool true, w, wants_none rfl, ?_, gb_refl _ _, rfl⟩
                  clear h
                  simp only [execOp, Act.eval, e42, e52]
                  go_simp
                | true =>
                  refine Fg.vT rfl (by decide) fun ac w h => ?_
                  obtain rfl : zL = false := HZL.out
                  have e42 : ac.tmps.getD 42 undef = Value.bool true := h.dep 42 (by kernel_rfl)
                  have e52 : ac.tmps.getD 52 undef = Value.bool false := h.dep 52 (by kernel_rfl)
                  refine ⟨Value.bool false, w, wants_none rfl, ?_, gb_refl _ _, rfl⟩
                  clear h
                  simp only [execOp, Act.eval, e42, e52]
                  go_simp
            refine ⟨Fg.vT rfl (by decide) fun ac w h => ?_, ?_⟩
            · have e53 : ac.tmps.getD 53 undef = Value.bool zL := h.dep 53 (by kernel_rfl)
              exact ⟨_, w, wants_none rfl, Fg.run_move rfl e53, gb_refl _ _, rfl⟩
            refine ⟨?_, ?_⟩
            · cases zL with
              | false =>
                refine Fg.vT rfl (by decide) fun ac w h => ?_
                have e54 : ac.tmps.getD 54 undef = Value.bool false := h.dep 54 (by kernel_rfl)
                have e0 : ac.tmps.getD 0 undef = Value.slice (some ⟨pb, po, none⟩) n c := h.rest 0 (by kernel_rfl)
                exact ⟨_, w, wants_some (d := 54) rfl rfl (by rw [h.size]; show 54 < 114; decide) e54, Fg.run_move rfl e0, gb_refl _ _, rfl⟩
              | true =>
                refine Fg.sT rfl (by decide) (fun _ => rfl) fun ac w h => ?_
                have e54 : ac.tmps.getD 54 undef = Value.bool true := h.dep 54 (by kernel_rfl)
                exact not_wants (d := 54) rfl rfl (by rw [h.size]; show 54 < 114; decide) e54 (by decide)
            refine ⟨?_, ?_⟩
            · cases zL with
              | false =>
                refine Fg.vT rfl (by decide) fun ac w h => ?_
                have e54 : ac.tmps.getD 54 undef = Value.bool false := h.dep 54 (by kernel_rfl)
                have e3 : ac.tmps.getD 3 undef = Value.int .i64 i := h.rest 3 (by kernel_rfl)
                exact ⟨_, w, wants_some (d := 54) rfl rfl (by rw [h.size]; show 54 < 114; decide) e54, Fg.run_move rfl e3, gb_refl _ _, rfl⟩
              | true =>
                refine Fg.sT rfl (by decide) (fun _ => rfl) fun ac w h => ?_
                have e54 : ac.tmps.getD 54 undef = Value.bool true := h.dep 54 (by kernel_rfl)
                exact not_wants (d := 54) rfl rfl (by rw [h.size]; show 54 < 114; decide) e54 (by decide)
            refine ⟨?_, ?_⟩
            · cases zL with
              | false =>
                refine Fg.vT rfl (by decide) fun ac w h => ?_
                have e54 : ac.tmps.getD 54 undef = Value.bool false := h.dep 54 (by kernel_rfl)
                have e55 : ac.tmps.getD 55 undef = Value.slice (some ⟨pb, po, none⟩) n c := h.dep 55 (by kernel_rfl)
                have e56 : ac.tmps.getD 56 undef = Value.int .i64 i := h.dep 56 (by kernel_rfl)
                have i0 : (i : Int) < (n : Int) := by omega
                refine ⟨.pointer (some ⟨pb, po + i * 7, none⟩), w, wants_some (d := 54) rfl rfl (by rw [h.size]; show 54 < 114; decide) e54, ?_, gb_refl _ _, rfl⟩
                clear h
                simp only [execOp, Act.eval, e55, e56]
                go_simp
              | true =>
                refine Fg.sT rfl (by decide) (fun _ => rfl) fun ac w h => ?_
                have e54 : ac.tmps.getD 54 undef = Value.bool true := h.dep 54 (by kernel_rfl)
                exact not_wants (d := 54) rfl rfl (by rw [h.size]; show 54 < 114; decide) e54 (by decide)
            refine ⟨?_, ?_⟩
            · cases zL with
              | false =>
                refine Fg.vT rfl (by decide) fun ac w h => ?_
                have e54 : ac.tmps.getD 54 undef = Value.bool false := h.dep 54 (by kernel_rfl)
                have e57 : ac.tmps.getD 57 undef = Value.pointer (some ⟨pb, po + i * 7, none⟩) := h.dep 57 (by kernel_rfl)
                have m0 : w.cell? ⟨pb, po + i * 7 , none⟩ = some (.string rs) := by rw [gb_cell h.base (block_lt_of_cell (HXY.out.1.1)) (by simp)]; exact HXY.out.1.1
                have m1 : w.cell? ⟨pb, po + i * 7 + 1, none⟩ = some (iV rcl) := by rw [gb_cell h.base (block_lt_of_cell (HXY.out.1.2.1)) (by simp)]; exact HXY.out.1.2.1
                have m2 : w.cell? ⟨pb, po + i * 7 + 2, none⟩ = some (iV rsq) := by rw [gb_cell h.base (block_lt_of_cell (HXY.out.1.2.2.1)) (by simp)]; exact HXY.out.1.2.2.1
                have m3 : w.cell? ⟨pb, po + i * 7 + 3, none⟩ = some (.slice ra1 rn1 rd1) := by rw [gb_cell h.base (block_lt_of_cell (HXY.out.1.2.2.2.1)) (by simp)]; exact HXY.out.1.2.2.2.1
                have m4 : w.cell? ⟨pb, po + i * 7 + 4, none⟩ = some (.bool rg) := by rw [gb_cell h.base (block_lt_of_cell (HXY.out.1.2.2.2.2.1)) (by simp)]; exact HXY.out.1.2.2.2.2.1
                have m5 : w.cell? ⟨pb, po + i * 7 + 5, none⟩ = some (.slice ra2 rn2 rd2) := by rw [gb_cell h.base (block_lt_of_cell (HXY.out.1.2.2.2.2.2.1)) (by simp)]; exact HXY.out.1.2.2.2.2.2.1
                have m6 : w.cell? ⟨pb, po + i * 7 + 6, none⟩ = some (.slice ra3 rn3 rd3) := by rw [gb_cell h.base (block_lt_of_cell (HXY.out.1.2.2.2.2.2.2)) (by simp)]; exact HXY.out.1.2.2.2.2.2.2
                refine ⟨vV rs rcl rsq ra1 rn1 rd1 rg ra2 rn2 rd2 ra3 rn3 rd3, w, wants_some (d := 54) rfl rfl (by rw [h.size]; show 54 < 114; decide) e54, ?_, gb_refl _ _, rfl⟩
                clear h
                simp only [execOp, Act.eval, e57]
                go_simp
              | true =>
                refine Fg.sT rfl (by decide) (fun _ => rfl) fun ac w h => ?_
                have e54 : ac.tmps.getD 54 undef = Value.bool true := h.dep 54 (by kernel_rfl)
                exact not_wants (d := 54) rfl rfl (by rw [h.size]; show 54 < 114; decide) e54 (by decide)
            refine ⟨?_, ?_⟩
            · cases zL with
              | false =>
                refine Fg.vT rfl (by decide) fun ac w h => ?_
                have e54 : ac.tmps.getD 54 undef = Value.bool false := h.dep 54 (by kernel_rfl)
                have e0 : ac.tmps.getD 0 undef = Value.slice (some ⟨pb, po, none⟩) n c := h.rest 0 (by kernel_rfl)
                exact ⟨_, w, wants_some (d := 54) rfl rfl (by rw [h.size]; show 54 < 114; decide) e54, Fg.run_move rfl e0, gb_refl _ _, rfl⟩
              | true =>
                refine Fg.sT rfl (by decide) (fun _ => rfl) fun ac w h => ?_
                have e54 : ac.tmps.getD 54 undef = Value.bool true := h.dep 54 (by kernel_rfl)
                exact not_wants (d := 54) rfl rfl (by rw [h.size]; show 54 < 114; decide) e54 (by decide)
            refine ⟨?_, ?_⟩
            · cases zL with
              | false =>
                refine Fg.vT rfl (by decide) fun ac w h => ?_
                have e54 : ac.tmps.getD 54 undef = Value.bool false := h.dep 54 (by kernel_rfl)
                have e4 : ac.tmps.getD 4 undef = Value.int .i64 j := h.rest 4 (by kernel_rfl)
                exact ⟨_, w, wants_some (d := 54) rfl rfl (by rw [h.size]; show 54 < 114; decide) e54, Fg.run_move rfl e4, gb_refl _ _, rfl⟩
              | true =>
                refine Fg.sT rfl (by decide) (fun _ => rfl) fun ac w h => ?_
                have e54 : ac.tmps.getD 54 undef = Value.bool true := h.dep 54 (by kernel_rfl)
                exact not_wants (d := 54) rfl rfl (by rw [h.size]; show 54 < 114; decide) e54 (by decide)
            refine ⟨?_, ?_⟩
            · cases zL with
              | false =>
                refine Fg.vT rfl (by decide) fun ac w h => ?_
                have e54 : ac.tmps.getD 54 undef = Value.bool false := h.dep 54 (by kernel_rfl)
                have e59 : ac.tmps.getD 59 undef = Value.slice (some ⟨pb, po, none⟩) n c := h.dep 59 (by kernel_rfl)
                have e60 : ac.tmps.getD 60 undef = Value.int .i64 j := h.dep 60 (by kernel_rfl)
                have i0 : (j : Int) < (n : Int) := by omega
                refine ⟨.pointer (some ⟨pb, po + j * 7, none⟩), w, wants_some (d := 54) rfl rfl (by rw [h.size]; show 54 < 114; decide) e54, ?_, gb_refl _ _, rfl⟩
                clear h
                simp only [execOp, Act.eval, e59, e60]
                go_simp
              | true =>
                refine Fg.sT rfl (by decide) (fun _ => rfl) fun ac w h => ?_
                have e54 : ac.tmps.getD 54 undef = Value.bool true := h.dep 54 (by kernel_rfl)
                exact not_wants (d := 54) rfl rfl (by rw [h.size]; show 54 < 114; decide) e54 (by decide)
            refine ⟨?_, ?_⟩
            · cases zL with
              | false =>
                refine Fg.vT rfl (by decide) fun ac w h => ?_
                have e54 : ac.tmps.getD 54 undef = Value.bool false := h.dep 54 (by kernel_rfl)
                have e61 : ac.tmps.getD 61 undef = Value.pointer (some ⟨pb, po + j * 7, none⟩) := h.dep 61 (by kernel_rfl)
                have m0 : w.cell? ⟨pb, po + j * 7 , none⟩ = some (.string rs') := by rw [gb_cell h.base (block_lt_of_cell (HXY.out.2.1)) (by simp)]; exact HXY.out.2.1
                have m1 : w.cell? ⟨pb, po + j * 7 + 1, none⟩ = some (iV rcl') := by rw [gb_cell h.base (block_lt_of_cell (HXY.out.2.2.1)) (by simp)]; exact HXY.out.2.2.1
                have m2 : w.cell? ⟨pb, po + j * 7 + 2, none⟩ = some (iV rsq') := by rw [gb_cell h.base (block_lt_of_cell (HXY.out.2.2.2.1)) (by simp)]; exact HXY.out.2.2.2.1
                have m3 : w.cell? ⟨pb, po + j * 7 + 3, none⟩ = some (.slice ra1' rn1' rd1') := by rw [gb_cell h.base (block_lt_of_cell (HXY.out.2.2.2.2.1)) (by simp)]; exact HXY.out.2.2.2.2.1
                have m4 : w.cell? ⟨pb, po + j * 7 + 4, none⟩ = some (.bool rg') := by rw [gb_cell h.base (block_lt_of_cell (HXY.out.2.2.2.2.2.1)) (by simp)]; exact HXY.out.2.2.2.2.2.1
                have m5 : w.cell? ⟨pb, po + j * 7 + 5, none⟩ = some (.slice ra2' rn2' rd2') := by rw [gb_cell h.base (block_lt_of_cell (HXY.out.2.2.2.2.2.2.1)) (by simp)]; exact HXY.out.2.2.2.2.2.2.1
                have m6 : w.cell? ⟨pb, po + j * 7 + 6, none⟩ = some (.slice ra3' rn3' rd3') := by rw [gb_cell h.base (block_lt_of_cell (HXY.out.2.2.2.2.2.2.2)) (by simp)]; exact HXY.out.2.2.2.2.2.2.2
                refine ⟨vV rs' rcl' rsq' ra1' rn1' rd1' rg' ra2' rn2' rd2' ra3' rn3' rd3', w, wants_some (d := 54) rfl rfl (by rw [h.size]; show 54 < 114; decide) e54, ?_, gb_refl _ _, rfl⟩
                clear h
                simp only [execOp, Act.eval, e61]
                go_simp
              | true =>
                refine Fg.sT rfl (by decide) (fun _ => rfl) fun ac w h => ?_
                have e54 : ac.tmps.getD 54 undef = Value.bool true := h.dep 54 (by kernel_rfl)
                exact not_wants (d := 54) rfl rfl (by rw [h.size]; show 54 < 114; decide) e54 (by decide)
            refine ⟨?_, ?_⟩
            · cases zL with
              | false =>
                refine Fg.cT rfl (by decide) fun ac w h => ?_
                have e54 : ac.tmps.getD 54 undef = Value.bool false := h.dep 54 (by kernel_rfl)
                have e58 : ac.tmps.getD 58 undef = vV rs rcl rsq ra1 rn1 rd1 rg ra2 rn2 rd2 ra3 rn3 rd3 := h.dep 58 (by kernel_rfl)
                have e62 : ac.tmps.getD 62 undef = vV rs' rcl' rsq' ra1' rn1' rd1' rg' ra2' rn2' rd2' ra3' rn3' rd3' := h.dep 62 (by kernel_rfl)
                refine ⟨11, #[vV rs rcl rsq ra1 rn1 rd1 rg ra2 rn2 rd2 ra3 rn3 rd3, vV rs' rcl' rsq' ra1' rn1' rd1' rg' ra2' rn2' rd2' ra3' rn3' rd3'], wants_some (d := 54) rfl rfl (by rw [h.size]; show 54 < 114; decide) e54, Fg.run_call rfl rfl (by simp only [List.map_toArray, List.map_cons, List.map_nil, Act.eval, e58, e62]) (Fg.run_enter Try.func11 (by kernel_rfl) (by kernel_rfl)), ?_⟩
                exact (HO1.out w (gb_trans HG2.out h.base)).mono fun _ _ ⟨he, hg⟩ => ⟨_, he, hg, rfl⟩
              | true =>
                refine Fg.sT rfl (by decide) (fun _ => rfl) fun ac w h => ?_
                have e54 : ac.tmps.getD 54 undef = Value.bool true := h.dep 54 (by kernel_rfl)
                exact not_wants (d := 54) rfl rfl (by rw [h.size]; show 54 < 114; decide) e54 (by decide)
            refine ⟨?_, ?_⟩
            · cases zL with
              | false =>
                refine Fg.vT rfl (by decide) fun ac w h => ?_
                have e54 : ac.tmps.getD 54 undef = Value.bool false := h.dep 54 (by kernel_rfl)
                have e63 : ac.tmps.getD 63 undef = Value.bool zD := h.dep 63 (by kernel_rfl)
                exact ⟨_, w, wants_some (d := 54) rfl rfl (by rw [h.size]; show 54 < 114; decide) e54, Fg.run_move rfl e63, gb_refl _ _, rfl⟩
              | true =>
                refine Fg.sT rfl (by decide) (fun _ => rfl) fun ac w h => ?_
                have e54 : ac.tmps.getD 54 undef = Value.bool true := h.dep 54 (by kernel_rfl)
                exact not_wants (d := 54) rfl rfl (by rw [h.size]; show 54 < 114; decide) e54 (by decide)
            refine ⟨?_, ?_⟩
            · cases zL with
              | false =>
                cases zD with
                | false =>
                  refine Fg.sT rfl (by decide) (fun _ => rfl) fun ac w h => ?_
                  have e64 : ac.tmps.getD 64 undef = Value.bool false := h.dep 64 (by kernel_rfl)
                  exact not_wants (d := 64) rfl rfl (by rw [h.size]; show 64 < 114; decide) e64 (by decide)
                | true =>
                  refine Fg.vT rfl (by decide) fun ac w h => ?_
                  have e64 : ac.tmps.getD 64 undef = Value.bool true := h.dep 64 (by kernel_rfl)
                  have e0 : ac.tmps.getD 0 undef = Value.slice (some ⟨pb, po, none⟩) n c := h.rest 0 (by kernel_rfl)
                  exact ⟨_, w, wants_some (d := 64) rfl rfl (by rw [h.size]; show 64 < 114; decide) e64, Fg.run_move rfl e0, gb_refl _ _, rfl⟩
              | true =>
                refine Fg.sT rfl (by decide) (fun _ => rfl) fun ac w h => ?_
                have e64 : ac.tmps.getD 64 undef = undef := h.dep 64 (by kernel_rfl)
                exact Fg.not_wants_undef (d := 64) rfl rfl (by rw [h.size]; show 64 < 114; decide) e64
            refine ⟨?_, ?_⟩
            · cases zL with
              | false =>
                cases zD with
                | false =>
                  refine Fg.sT rfl (by decide) (fun _ => rfl) fun ac w h => ?_
                  have e64 : ac.tmps.getD 64 undef = Value.bool false := h.dep 64 (by kernel_rfl)
                  exact not_wants (d := 64) rfl rfl (by rw [h.size]; show 64 < 114; decide) e64 (by decide)
                | true =>
                  refine Fg.vT rfl (by decide) fun ac w h => ?_
                  have e64 : ac.tmps.getD 64 undef = Value.bool true := h.dep 64 (by kernel_rfl)
                  have e4 : ac.tmps.getD 4 undef = Value.int .i64 j := h.rest 4 (by kernel_rfl)
                  exact ⟨_, w, wants_some (d := 64) rfl rfl (by rw [h.size]; show 64 < 114; decide) e64, Fg.run_move rfl e4, gb_refl _ _, rfl⟩
              | true =>
                refine Fg.sT rfl (by decide) (fun _ => rfl) fun ac w h => ?_
                have e64 : ac.tmps.getD 64 undef = undef := h.dep 64 (by kernel_rfl)
                exact Fg.not_wants_undef (d := 64) rfl rfl (by rw [h.size]; show 64 < 114; decide) e64
            refine ⟨?_, ?_⟩
            · cases zL with
              | false =>
                cases zD with
                | false =>
                  refine Fg.sT rfl (by decide) (fun _ => rfl) fun ac w h => ?_
                  have e64 : ac.tmps.getD 64 undef = Value.bool false := h.dep 64 (by kernel_rfl)
                  exact not_wants (d := 64) rfl rfl (by rw [h.size]; show 64 < 114; decide) e64 (by decide)
                | true =>
                  refine Fg.vT rfl (by decide) fun ac w h => ?_
                  have e64 : ac.tmps.getD 64 undef = Value.bool true := h.dep 64 (by kernel_rfl)
                  have e65 : ac.tmps.getD 65 undef = Value.slice (some ⟨pb, po, none⟩) n c := h.dep 65 (by kernel_rfl)
                  have e66 : ac.tmps.getD 66 undef = Value.int .i64 j := h.dep 66 (by kernel_rfl)
                  have i0 : (j : Int) < (n : Int) := by omega
                  refine ⟨.pointer (some ⟨pb, po + j * 7, none⟩), w, wants_some (d := 64) rfl rfl (by rw [h.size]; show 64 < 114; decide) e64, ?_, gb_refl _ _, rfl⟩
                  clear h
                  simp only [execOp, Act.eval, e65, e66]
                  go_simp
              | true =>
                refine Fg.sT rfl (by decide) (fun _ => rfl) fun ac w h => ?_
                have e64 : ac.tmps.getD 64 undef = undef := h.dep 64 (by kernel_rfl)
                exact Fg.not_wants_undef (d := 64) rfl rfl (by rw [h.size]; show 64 < 114; decide) e64
            refine ⟨?_, ?_⟩
            · cases zL with
              | false =>
                cases zD with
                | false =>
                  refine Fg.sT rfl (by decide) (fun _ => rfl) fun ac w h => ?_
                  have e64 : ac.tmps.getD 64 undef = Value.bool false := h.dep 64 (by kernel_rfl)
                  exact not_wants (d := 64) rfl rfl (by rw [h.size]; show 64 < 114; decide) e64 (by decide)
                | true =>
                  refine Fg.vT rfl (by decide) fun ac w h => ?_
                  have e64 : ac.tmps.getD 64 undef = Value.bool true := h.dep 64 (by kernel_rfl)
                  have e67 : ac.tmps.getD 67 undef = Value.pointer (some ⟨pb, po + j * 7, none⟩) := h.dep 67 (by kernel_rfl)
                  have m0 : w.cell? ⟨pb, po + j * 7 , none⟩ = some (.string rs') := by rw [gb_cell h.base (block_lt_of_cell (HXY.out.2.1)) (by simp)]; exact HXY.out.2.1
                  have m1 : w.cell? ⟨pb, po + j * 7 + 1, none⟩ = some (iV rcl') := by rw [gb_cell h.base (block_lt_of_cell (HXY.out.2.2.1)) (by simp)]; exact HXY.out.2.2.1
                  have m2 : w.cell? ⟨pb, po + j * 7 + 2, none⟩ = some (iV rsq') := by rw [gb_cell h.base (block_lt_of_cell (HXY.out.2.2.2.1)) (by simp)]; exact HXY.out.2.2.2.1
                  have m3 : w.cell? ⟨pb, po + j * 7 + 3, none⟩ = some (.slice ra1' rn1' rd1') := by rw [gb_cell h.base (block_lt_of_cell (HXY.out.2.2.2.2.1)) (by simp)]; exact HXY.out.2.2.2.2.1
                  have m4 : w.cell? ⟨pb, po + j * 7 + 4, none⟩ = some (.bool rg') := by rw [gb_cell h.base (block_lt_of_cell (HXY.out.2.2.2.2.2.1)) (by simp)]; exact HXY.out.2.2.2.2.2.1
                  have m5 : w.cell? ⟨pb, po + j * 7 + 5, none⟩ = some (.slice ra2' rn2' rd2') := by rw [gb_cell h.base (block_lt_of_cell (HXY.out.2.2.2.2.2.2.1)) (by simp)]; exact HXY.out.2.2.2.2.2.2.1
                  have m6 : w.cell? ⟨pb, po + j * 7 + 6, none⟩ = some (.slice ra3' rn3' rd3') := by rw [gb_cell h.base (block_lt_of_cell (HXY.out.2.2.2.2.2.2.2)) (by simp)]; exact HXY.out.2.2.2.2.2.2.2
                  refine ⟨vV rs' rcl' rsq' ra1' rn1' rd1' rg' ra2' rn2' rd2' ra3' rn3' rd3', w, wants_some (d := 64) rfl rfl (by rw [h.size]; show 64 < 114; decide) e64, ?_, gb_refl _ _, rfl⟩
                  clear h
                  simp only [execOp, Act.eval, e67]
                  go_simp
              | true =>
                refine Fg.sT rfl (by decide) (fun _ => rfl) fun ac w h => ?_
                have e64 : ac.tmps.getD 64 undef = undef := h.dep 64 (by kernel_rfl)
                exact Fg.not_wants_undef (d := 64) rfl rfl (by rw [h.size]; show 64 < 114; decide) e64
            refine ⟨?_, ?_⟩
            · cases zL with
              | false =>
                cases zD with
                | false =>
                  refine Fg.sT rfl (by decide) (fun _ => rfl) fun ac w h => ?_
                  have e64 : ac.tmps.getD 64 undef = Value.bool false := h.dep 64 (by kernel_rfl)
                  exact not_wants (d := 64) rfl rfl (by rw [h.size]; show 64 < 114; decide) e64 (by decide)
                | true =>
                  refine Fg.vT rfl (by decide) fun ac w h => ?_
                  have e64 : ac.tmps.getD 64 undef = Value.bool true := h.dep 64 (by kernel_rfl)
                  have e0 : ac.tmps.getD 0 undef = Value.slice (some ⟨pb, po, none⟩) n c := h.rest 0 (by kernel_rfl)
                  exact ⟨_, w, wants_some (d := 64) rfl rfl (by rw [h.size]; show 64 < 114; decide) e64, Fg.run_move rfl e0, gb_refl _ _, rfl⟩
              | true =>
                refine Fg.sT rfl (by decide) (fun _ => rfl) fun ac w h => ?_
                have e64 : ac.tmps.getD 64 undef = undef := h.dep 64 (by kernel_rfl)
                exact Fg.not_wants_undef (d := 64) rfl rfl (by rw [h.size]; show 64 < 114; decide) e64
            refine ⟨?_, ?_⟩
            · cases zL with
              | false =>
                cases zD with
                | false =>
                  refine Fg.sT rfl (by decide) (fun _ => rfl) fun ac w h => ?_
                  have e64 : ac.tmps.getD 64 undef = Value.bool false := h.dep 64 (by kernel_rfl)
                  exact not_wants (d := 64) rfl rfl (by rw [h.size]; show 64 < 114; decide) e64 (by decide)
                | true =>
                  refine Fg.vT rfl (by decide) fun ac w h => ?_
                  have e64 : ac.tmps.getD 64 undef = Value.bool true := h.dep 64 (by kernel_rfl)
                  have e3 : ac.tmps.getD 3 undef = Value.int .i64 i := h.rest 3 (by kernel_rfl)
                  exact ⟨_, w, wants_some (d := 64) rfl rfl (by rw [h.size]; show 64 < 114; decide) e64, Fg.run_move rfl e3, gb_refl _ _, rfl⟩
              | true =>
                refine Fg.sT rfl (by decide) (fun _ => rfl) fun ac w h => ?_
                have e64 : ac.tmps.getD 64 undef = undef := h.dep 64 (by kernel_rfl)
                exact Fg.not_wants_undef (d := 64) rfl rfl (by rw [h.size]; show 64 < 114; decide) e64
            refine ⟨?_, ?_⟩
            · cases zL with
              | false =>
                cases zD with
                | false =>
                  refine Fg.sT rfl (by decide) (fun _ => rfl) fun ac w h => ?_
                  have e64 : ac.tmps.getD 64 undef = Value.bool false := h.dep 64 (by kernel_rfl)
                  exact not_wants (d := 64) rfl rfl (by rw [h.size]; show 64 < 114; decide) e64 (by decide)
                | true =>
                  refine Fg.vT rfl (by decide) fun ac w h => ?_
                  have e64 : ac.tmps.getD 64 undef = Value.bool true := h.dep 64 (by kernel_rfl)
                  have e69 : ac.tmps.getD 69 undef = Value.slice (some ⟨pb, po, none⟩) n c := h.dep 69 (by kernel_rfl)
                  have e70 : ac.tmps.getD 70 undef = Value.int .i64 i := h.dep 70 (by kernel_rfl)
                  have i0 : (i : Int) < (n : Int) := by omega
                  refine ⟨.pointer (some ⟨pb, po + i * 7, none⟩), w, wants_some (d := 64) rfl rfl (by rw [h.size]; show 64 < 114; decide) e64, ?_, gb_refl _ _, rfl⟩
                  clear h
                  simp only [execOp, Act.eval, e69, e70]
                  go_simp
              | true =>
                refine Fg.sT rfl (by decide) (fun _ => rfl) fun ac w h => ?_
                have e64 : ac.tmps.getD 64 undef = undef := h.dep 64 (by kernel_rfl)
                exact Fg.not_wants_undef (d := 64) rfl rfl (by rw [h.size]; show 64 < 114; decide) e64
            refine ⟨?_, ?_⟩
            · cases zL with
              | false =>
                cases zD with
                | false =>
                  refine Fg.sT rfl (by decide) (fun _ => rfl) fun ac w h => ?_
                  have e64 : ac.tmps.getD 64 undef = Value.bool false := h.dep 64 (by kernel_rfl)
                  exact not_wants (d := 64) rfl rfl (by rw [h.size]; show 64 < 114; decide) e64 (by decide)
                | true =>
                  refine Fg.vT rfl (by decide) fun ac w h => ?_
                  have e64 : ac.tmps.getD 64 undef = Value.bool true := h.dep 64 (by kernel_rfl)
                  have e71 : ac.tmps.getD 71 undef = Value.pointer (some ⟨pb, po + i * 7, none⟩) := h.dep 71 (by kernel_rfl)
                  have m0 : w.cell? ⟨pb, po + i * 7 , none⟩ = some (.string rs) := by rw [gb_cell h.base (block_lt_of_cell (HXY.out.1.1)) (by simp)]; exact HXY.out.1.1
                  have m1 : w.cell? ⟨pb, po + i * 7 + 1, none⟩ = some (iV rcl) := by rw [gb_cell h.base (block_lt_of_cell (HXY.out.1.2.1)) (by simp)]; exact HXY.out.1.2.1
                  have m2 : w.cell? ⟨pb, po + i * 7 + 2, none⟩ = some (iV rsq) := by rw [gb_cell h.base (block_lt_of_cell (HXY.out.1.2.2.1)) (by simp)]; exact HXY.out.1.2.2.1
                  have m3 : w.cell? ⟨pb, po + i * 7 + 3, none⟩ = some (.slice ra1 rn1 rd1) := by rw [gb_cell h.base (block_lt_of_cell (HXY.out.1.2.2.2.1)) (by simp)]; exact HXY.out.1.2.2.2.1
                  have m4 : w.cell? ⟨pb, po + i * 7 + 4, none⟩ = some (.bool rg) := by rw [gb_cell h.base (block_lt_of_cell (HXY.out.1.2.2.2.2.1)) (by simp)]; exact HXY.out.1.2.2.2.2.1
                  have m5 : w.cell? ⟨pb, po + i * 7 + 5, none⟩ = some (.slice ra2 rn2 rd2) := by rw [gb_cell h.base (block_lt_of_cell (HXY.out.1.2.2.2.2.2.1)) (by simp)]; exact HXY.out.1.2.2.2.2.2.1
                  have m6 : w.cell? ⟨pb, po + i * 7 + 6, none⟩ = some (.slice ra3 rn3 rd3) := by rw [gb_cell h.base (block_lt_of_cell (HXY.out.1.2.2.2.2.2.2)) (by simp)]; exact HXY.out.1.2.2.2.2.2.2
                  refine ⟨vV rs rcl rsq ra1 rn1 rd1 rg ra2 rn2 rd2 ra3 rn3 rd3, w, wants_some (d := 64) rfl rfl (by rw [h.size]; show 64 < 114; decide) e64, ?_, gb_refl _ _, rfl⟩
                  clear h
                  simp only [execOp, Act.eval, e71]
                  go_simp
              | true =>
                refine Fg.sT rfl (by decide) (fun _ => rfl) fun ac w h => ?_
                have e64 : ac.tmps.getD 64 undef = undef := h.dep 64 (by kernel_rfl)
                exact Fg.not_wants_undef (d := 64) rfl rfl (by rw [h.size]; show 64 < 114; decide) e64
            refine ⟨?_, ?_⟩
            · cases zL with
              | false =>
                cases zD with
                | false =>
                  refine Fg.sT rfl (by decide) (fun _ => rfl) fun ac w h => ?_
                  have e64 : ac.tmps.getD 64 undef = Value.bool false := h.dep 64 (by kernel_rfl)
                  exact not_wants (d := 64) rfl rfl (by rw [h.size]; show 64 < 114; decide) e64 (by decide)
                | true =>
                  refine Fg.cT rfl (by decide) fun ac w h => ?_
                  have e64 : ac.tmps.getD 64 undef = Value.bool true := h.dep 64 (by kernel_rfl)
                  have e68 : ac.tmps.getD 68 undef = vV rs' rcl' rsq' ra1' rn1' rd1' rg' ra2' rn2' rd2' ra3' rn3' rd3' := h.dep 68 (by kernel_rfl)
                  have e72 : ac.tmps.getD 72 undef = vV rs rcl rsq ra1 rn1 rd1 rg ra2 rn2 rd2 ra3 rn3 rd3 := h.dep 72 (by kernel_rfl)
                  refine ⟨11, #[vV rs' rcl' rsq' ra1' rn1' rd1' rg' ra2' rn2' rd2' ra3' rn3' rd3', vV rs rcl rsq ra1 rn1 rd1 rg ra2 rn2 rd2 ra3 rn3 rd3], wants_some (d := 64) rfl rfl (by rw [h.size]; show 64 < 114; decide) e64, Fg.run_call rfl rfl (by simp only [List.map_toArray, List.map_cons, List.map_nil, Act.eval, e68, e72]) (Fg.run_enter Try.func11 (by kernel_rfl) (by kernel_rfl)), ?_⟩
                  exact (HO2.out w (gb_trans HG2.out h.base)).mono fun _ _ ⟨he, hg⟩ => ⟨_, he, hg, rfl⟩
              | true =>
                refine Fg.sT rfl (by decide) (fun _ => rfl) fun ac w h => ?_
                have e64 : ac.tmps.getD 64 undef = undef := h.dep 64 (by kernel_rfl)
                exact Fg.not_wants_undef (d := 64) rfl rfl (by rw [h.size]; show 64 < 114; decide) e64
            refine ⟨?_, ?_⟩
            · cases zL with
              | false =>
                cases zD with
                | false =>
                  refine Fg.vT rfl (by decide) fun ac w h => ?_
                  have e54 : ac.tmps.getD 54 undef = Value.bool false := h.dep 54 (by kernel_rfl)
                  have e64 : ac.tmps.getD 64 undef = Value.bool false := h.dep 64 (by kernel_rfl)
                  refine ⟨Value.bool false, w, wants_some (d := 54) rfl rfl (by rw [h.size]; show 54 < 114; decide) e54, ?_, gb_refl _ _, rfl⟩
                  clear h
                  simp only [execOp, Act.eval, e64]
                  go_simp
                | true =>
                  refine Fg.vT rfl (by decide) fun ac w h => ?_
                  have e54 : ac.tmps.getD 54 undef = Value.bool false := h.dep 54 (by kernel_rfl)
                  have e64 : ac.tmps.getD 64 undef = Value.bool true := h.dep 64 (by kernel_rfl)
                  have e73 : ac.tmps.getD 73 undef = Value.bool zE := h.dep 73 (by kernel_rfl)
                  refine ⟨Value.bool zE, w, wants_some (d := 54) rfl rfl (by rw [h.size]; show 54 < 114; decide) e54, ?_, gb_refl _ _, rfl⟩
                  clear h
                  simp only [execOp, Act.eval, e64, e73]
                  go_simp
              | true =>
                refine Fg.sT rfl (by decide) (fun _ => rfl) fun ac w h => ?_
                have e54 : ac.tmps.getD 54 undef = Value.bool true := h.dep 54 (by kernel_rfl)
                exact not_wants (d := 54) rfl rfl (by rw [h.size]; show 54 < 114; decide) e54 (by decide)
            refine ⟨?_, ?_⟩
            · cases zL with
              | false =>
                cases zD with
                | false =>
                  refine Fg.vT rfl (by decide) fun ac w h => ?_
                  obtain rfl : bd = false := HBD.out
                  have e54 : ac.tmps.getD 54 undef = Value.bool false := h.dep 54 (by kernel_rfl)
                  have e74 : ac.tmps.getD 74 undef = Value.bool false := h.dep 74 (by kernel_rfl)
                  refine ⟨Value.bool false, w, wants_none rfl, ?_, gb_refl _ _, rfl⟩
                  clear h
                  simp only [execOp, Act.eval, e54, e74]
                  go_simp
                | true =>
                  cases zE with
                  | false =>
                    refine Fg.vT rfl (by decide) fun ac w h => ?_
                    obtain rfl : bd = false := HBD.out
                    have e54 : ac.tmps.getD 54 undef = Value.bool false := h.dep 54 (by kernel_rfl)
                    have e74 : ac.tmps.getD 74 undef = Value.bool false := h.dep 74 (by kernel_rfl)
                    refine ⟨Value.bool false, w, wants_none rfl, ?_, gb_refl _ _, rfl⟩
                    clear h
                    simp only [execOp, Act.eval, e54, e74]
                    go_simp
                  | true =>
                    refine Fg.vT rfl (by decide) fun ac w h => ?_
                    obtain rfl : bd = true := HBD.out
                    have e54 : ac.tmps.getD 54 undef = Value.bool false := h.dep 54 (by kernel_rfl)
                    have e74 : ac.tmps.getD 74 undef = Value.bool true := h.dep 74 (by kernel_rfl)
                    refine ⟨Value.bool true, w, wants_none rfl, ?_, gb_refl _ _, rfl⟩
                    clear h
                    simp only [execOp, Act.eval, e54, e74]
                    go_simp
              | true =>
                refine Fg.vT rfl (by decide) fun ac w h => ?_
                obtain rfl : bd = true := HBD.out
                have e54 : ac.tmps.getD 54 undef = Value.bool true := h.dep 54 (by kernel_rfl)
                refine ⟨Value.bool true, w, wants_none rfl, ?_, gb_refl _ _, rfl⟩
                clear h
                simp only [execOp, Act.eval, e54]
                go_simp
            trivial
          · intro aq wq hB hsz hdf hrest hslots hpt
            obtain ⟨u18, e18⟩ : ∃ u, aq.tmps.getD 18 undef = u := ⟨_, rfl⟩
            obtain ⟨u19, e19⟩ : ∃ u, aq.tmps.getD 19 undef = u := ⟨_, rfl⟩
            obtain ⟨u20, e20⟩ : ∃ u, aq.tmps.getD 20 undef = u := ⟨_, rfl⟩
            obtain ⟨u21, e21⟩ : ∃ u, aq.tmps.getD 21 undef = u := ⟨_, rfl⟩
            obtain ⟨u22, e22⟩ : ∃ u, aq.tmps.getD 22 undef = u := ⟨_, rfl⟩
            obtain ⟨u23, e23⟩ : ∃ u, aq.tmps.getD 23 undef = u := ⟨_, rfl⟩
            obtain ⟨u24, e24⟩ : ∃ u, aq.tmps.getD 24 undef = u := ⟨_, rfl⟩
            obtain ⟨u25, e25⟩ : ∃ u, aq.tmps.getD 25 undef = u := ⟨_, rfl⟩
            obtain ⟨u26, e26⟩ : ∃ u, aq.tmps.getD 26 undef = u := ⟨_, rfl⟩
            obtain ⟨u27, e27⟩ : ∃ u, aq.tmps.getD 27 undef = u := ⟨_, rfl⟩
            obtain ⟨u28, e28⟩ : ∃ u, aq.tmps.getD 28 undef = u := ⟨_, rfl⟩
            obtain ⟨u29, e29⟩ : ∃ u, aq.tmps.getD 29 undef = u := ⟨_, rfl⟩
            obtain ⟨u30, e30⟩ : ∃ u, aq.tmps.getD 30 undef = u := ⟨_, rfl⟩
            obtain ⟨u31, e31⟩ : ∃ u, aq.tmps.getD 31 undef = u := ⟨_, rfl⟩
            obtain ⟨u32, e32⟩ : ∃ u, aq.tmps.getD 32 undef = u := ⟨_, rfl⟩
            obtain ⟨u33, e33⟩ : ∃ u, aq.tmps.getD 33 undef = u := ⟨_, rfl⟩
            obtain ⟨u34, e34⟩ : ∃ u, aq.tmps.getD 34 undef = u := ⟨_, rfl⟩
            obtain ⟨u35, e35⟩ : ∃ u, aq.tmps.getD 35 undef = u := ⟨_, rfl⟩
            obtain ⟨u36, e36⟩ : ∃ u, aq.tmps.getD 36 undef = u := ⟨_, rfl⟩
            obtain ⟨u37, e37⟩ : ∃ u, aq.tmps.getD 37 undef = u := ⟨_, rfl⟩
            obtain ⟨u38, e38⟩ : ∃ u, aq.tmps.getD 38 undef = u := ⟨_, rfl⟩
            obtain ⟨u39, e39⟩ : ∃ u, aq.tmps.getD 39 undef = u := ⟨_, rfl⟩
            obtain ⟨u40, e40⟩ : ∃ u, aq.tmps.getD 40 undef = u := ⟨_, rfl⟩
            obtain ⟨u41, e41⟩ : ∃ u, aq.tmps.getD 41 undef = u := ⟨_, rfl⟩
            obtain ⟨u42, e42⟩ : ∃ u, aq.tmps.getD 42 undef = u := ⟨_, rfl⟩
            obtain ⟨u43, e43⟩ : ∃ u, aq.tmps.getD 43 undef = u := ⟨_, rfl⟩
            obtain ⟨u44, e44⟩ : ∃ u, aq.tmps.getD 44 undef = u := ⟨_, rfl⟩
            obtain ⟨u45, e45⟩ : ∃ u, aq.tmps.getD 45 undef = u := ⟨_, rfl⟩
            obtain ⟨u46, e46⟩ : ∃ u, aq.tmps.getD 46 undef = u := ⟨_, rfl⟩
            obtain ⟨u47, e47⟩ : ∃ u, aq.tmps.getD 47 undef = u := ⟨_, rfl⟩
            obtain ⟨u48, e48⟩ : ∃ u, aq.tmps.getD 48 undef = u := ⟨_, rfl⟩
            obtain ⟨u49, e49⟩ : ∃ u, aq.tmps.getD 49 undef = u := ⟨_, rfl⟩
            obtain ⟨u50, e50⟩ : ∃ u, aq.tmps.getD 50 undef = u := ⟨_, rfl⟩
            obtain ⟨u51, e51⟩ : ∃ u, aq.tmps.getD 51 undef = u := ⟨_, rfl⟩
            obtain ⟨u52, e52⟩ : ∃ u, aq.tmps.getD 52 undef = u := ⟨_, rfl⟩
            obtain ⟨u53, e53⟩ : ∃ u, aq.tmps.getD 53 undef = u := ⟨_, rfl⟩
            obtain ⟨u54, e54⟩ : ∃ u, aq.tmps.getD 54 undef = u := ⟨_, rfl⟩
            obtain ⟨u55, e55⟩ : ∃ u, aq.tmps.getD 55 undef = u := ⟨_, rfl⟩
            obtain ⟨u56, e56⟩ : ∃ u, aq.tmps.getD 56 undef = u := ⟨_, rfl⟩
            obtain ⟨u57, e57⟩ : ∃ u, aq.tmps.getD 57 undef = u := ⟨_, rfl⟩
            obtain ⟨u58, e58⟩ : ∃ u, aq.tmps.getD 58 undef = u := ⟨_, rfl⟩
            obtain ⟨u59, e59⟩ : ∃ u, aq.tmps.getD 59 undef = u := ⟨_, rfl⟩
            obtain ⟨u60, e60⟩ : ∃ u, aq.tmps.getD 60 undef = u := ⟨_, rfl⟩
            obtain ⟨u61, e61⟩ : ∃ u, aq.tmps.getD 61 undef = u := ⟨_, rfl⟩
            obtain ⟨u62, e62⟩ : ∃ u, aq.tmps.getD 62 undef = u := ⟨_, rfl⟩
            obtain ⟨u63, e63⟩ : ∃ u, aq.tmps.getD 63 undef = u := ⟨_, rfl⟩
            obtain ⟨u64, e64⟩ : ∃ u, aq.tmps.getD 64 undef = u := ⟨_, rfl⟩
            obtain ⟨u65, e65⟩ : ∃ u, aq.tmps.getD 65 undef = u := ⟨_, rfl⟩
            obtain ⟨u66, e66⟩ : ∃ u, aq.tmps.getD 66 undef = u := ⟨_, rfl⟩
            obtain ⟨u67, e67⟩ : ∃ u, aq.tmps.getD 67 undef = u := ⟨_, rfl⟩
            obtain ⟨u68, e68⟩ : ∃ u, aq.tmps.getD 68 undef = u := ⟨_, rfl⟩
            obtain ⟨u69, e69⟩ : ∃ u, aq.tmps.getD 69 undef = u := ⟨_, rfl⟩
            obtain ⟨u70, e70⟩ : ∃ u, aq.tmps.getD 70 undef = u := ⟨_, rfl⟩
            obtain ⟨u71, e71⟩ : ∃ u, aq.tmps.getD 71 undef = u := ⟨_, rfl⟩
            obtain ⟨u72, e72⟩ : ∃ u, aq.tmps.getD 72 undef = u := ⟨_, rfl⟩
            obtain ⟨u73, e73⟩ : ∃ u, aq.tmps.getD 73 undef = u := ⟨_, rfl⟩
            obtain ⟨u74, e74⟩ : ∃ u, aq.tmps.getD 74 undef = u := ⟨_, rfl⟩
            have e75 : aq.tmps.getD 75 undef = Value.bool bd := hslots 75 (by kernel_rfl)
            obtain rfl := Fg.frame_is (a := aq) (vs := [Value.slice (some ⟨pb, po, none⟩) n c, undef, u2, Value.int .i64 i, Value.int .i64 j, u5, Value.int .i64 i, Value.slice (some ⟨pb, po, none⟩) n c, Value.int .i64 n, Value.bool true, u10, u11, Value.int .i64 j, Value.slice (some ⟨pb, po, none⟩) n c, Value.int .i64 n, Value.bool true, u16, u17, u18, u19, u20, u21, u22, u23, u24, u25, u26, u27, u28, u29, u30, u31, u32, u33, u34, u35, u36, u37, u38, u39, u40, u41, u42, u43, u44, u45, u46, u47, u48, u49, u50, u51, u52, u53, u54, u55, u56, u57, u58, u59, u60, u61, u62, u63, u64, u65, u66, u67, u68, u69, u70, u71, u72, u73, u74, Value.bool bd, u76, u77, u78, u79, u80, u81, u82, u83, u84, u85, u86, u87, u88, u89, u90, u91, u92, u93, u94, u95, u96, u97, u98, u99, u100, u101, u102, u103, u104, u105, u106, u107, u108, u109, u110, u111, u112, u113]) hsz ⟨hrest 0 (by kernel_rfl), hrest 1 (by kernel_rfl), hrest 2 (by kernel_rfl), hrest 3 (by kernel_rfl), hrest 4 (by kernel_rfl), hrest 5 (by kernel_rfl), hrest 6 (by kernel_rfl), hrest 7 (by kernel_rfl), hrest 8 (by kernel_rfl), hrest 9 (by kernel_rfl), hrest 10 (by kernel_rfl), hrest 11 (by kernel_rfl), hrest 12 (by kernel_rfl), hrest 13 (by kernel_rfl), hrest 14 (by kernel_rfl), hrest 15 (by kernel_rfl), hrest 16 (by kernel_rfl), hrest 17 (by kernel_rfl), e18, e19, e20, e21, e22, e23, e24, e25, e26, e27, e28, e29, e30, e31, e32, e33, e34, e35, e36, e37, e38, e39, e40, e41, e42, e43, e44, e45, e46, e47, e48, e49, e50, e51, e52, e53, e54, e55, e56, e57, e58, e59, e60, e61, e62, e63, e64, e65, e66, e67, e68, e69, e70, e71, e72, e73, e74, e75, hrest 76 (by kernel_rfl), hrest 77 (by kernel_rfl), hrest 78 (by kernel_rfl), hrest 79 (by kernel_rfl), hrest 80 (by kernel_rfl), hrest 81 (by kernel_rfl), hrest 82 (by kernel_rfl), hrest 83 (by kernel_rfl), hrest 84 (by kernel_rfl), hrest 85 (by kernel_rfl), hrest 86 (by kernel_rfl), hrest 87 (by kernel_rfl), hrest 88 (by kernel_rfl), hrest 89 (by kernel_rfl), hrest 90 (by kernel_rfl), hrest 91 (by kernel_rfl), hrest 92 (by kernel_rfl), hrest 93 (by kernel_rfl), hrest 94 (by kernel_rfl), hrest 95 (by kernel_rfl), hrest 96 (by kernel_rfl), hrest 97 (by kernel_rfl), hrest 98 (by kernel_rfl), hrest 99 (by kernel_rfl), hrest 100 (by kernel_rfl), hrest 101 (by kernel_rfl), hrest 102 (by kernel_rfl), hrest 103 (by kernel_rfl), hrest 104 (by kernel_rfl), hrest 105 (by kernel_rfl), hrest 106 (by kernel_rfl), hrest 107 (by kernel_rfl), hrest 108 (by kernel_rfl), hrest 109 (by kernel_rfl), hrest 110 (by kernel_rfl), hrest 111 (by kernel_rfl), hrest 112 (by kernel_rfl), hrest 113 (by kernel_rfl), trivial⟩ hdf
            clear hsz hdf hrest hslots hpt e18 e19 e20 e21 e22 e23 e24 e25 e26 e27 e28 e29 e30 e31 e32 e33 e34 e35 e36 e37 e38 e39 e40 e41 e42 e43 e44 e45 e46 e47 e48 e49 e50 e51 e52 e53 e54 e55 e56 e57 e58 e59 e60 e61 e62 e63 e64 e65 e66 e67 e68 e69 e70 e71 e72 e73 e74 e75
            have HGq := Lib.hid (gb_trans HG2.out hB)
            clear hB HG2 HXY HZ1 HZ2 HZU HZL HBD HS HO2
            refine wpList_nil ?_
            cases bd with
            | true =>
              have HE := Lib.hid (HQ.out false _ (fun h => by cases h) HGq.out)
              go_wp2
              exact HE.out
            | false =>
              go_wp2_with fail
              go_loopw [5] (fun v w3 => ∃ (c0 : Nat), c0 ≤ n ∧ v = .int .i64 c0 ∧ Hid (w.grownBy w3 none ∧ (zD = true → ∀ b, b < c0 → overB (l.getD j e0).2 (l.getD b e0).2 = true → overB (l.getD i e0).2 (l.getD b e0).2 = true))) (fun v _ => n - (intOf v).toNat)
              case atStart => exact ⟨0, by omega, rfl, HGq.out, fun _ b hb => absurd hb (by omega)⟩
              case round =>
                obtain ⟨c0, hc0, rfl, HK⟩ := hrel
                obtain ⟨w2, hw2⟩ : ∃ w2, w2 = wr := ⟨_, rfl⟩
                have HG2 := Lib.hid HK.out.1
                have HXY := Lib.hid (HXYS.out wr HG2.out)
                rw [← hw2] at HXY HG2
                by_cases hcl : c0 < n
                · have HCL : Hid ((c0 : Int) < (n : Int) ∧ decide ((c0 : Int) < (n : Int)) = true) := ⟨by omega, decide_eq_true (by omega)⟩
                  go_wp2_with fail
                  rw [← hw2]
                  clear hw2
                  refine Fg.region_t [] [.any, .any, .any, .any, .any, .any, .any, .any, .any, .any, .any, .any, .any, .any, .any, .any, .any, .any, .any, .any, .any, .any, .any, .any, .any, .any, .any, .any, .any, .any, .any, .any, .any, .any, .any, .any, .any, .any, .any, .any, .any, .any, .any, .any, .any, .any, .any, .any, .any, .any, .any, .any, .any, .any, .any, .any, .any, .any, .any, .any, .any, .any, .any, .any, .any, .any, .any, .any, .any, .any, .any, .any, .any, .any, .any, .any, .val (Value.int .i64 c0), .val (Value.slice (some ⟨pb, po, none⟩) n c), .val (Value.int .i64 n), .val (Value.bool true), .val (Value.bool true), .val (Value.slice (some ⟨pb, po, none⟩) n c), .val (Value.int .i64 i), .val (Value.pointer (some ⟨pb, po + i * 7, none⟩)), .val (vV rs rcl rsq ra1 rn1 rd1 rg ra2 rn2 rd2 ra3 rn3 rd3), .val (Value.slice (some ⟨pb, po, none⟩) n c), .val (Value.int .i64 j), .val (Value.pointer (some ⟨pb, po + j * 7, none⟩)), .val (vV rs' rcl' rsq' ra1' rn1' rd1' rg' ra2' rn2' rd2' ra3' rn3' rd3'), .val (Value.bool zD), .val (Value.bool zD)] w2 15 (gb_refl _ _) (by kernel_rfl) (by kernel_rfl) (by kernel_rfl) (by kernel_rfl) (by decide) (by kernel_rfl) ?_ ?_
                  · refine ⟨Fg.vT rfl (by decide) fun ac w h => ?_, ?_⟩
                    · have e5 : ac.tmps.getD 5 undef = Value.int .i64 c0 := h.rest 5 (by kernel_rfl)
                      exact ⟨_, w, wants_none rfl, Fg.run_move rfl e5, gb_refl _ _, rfl⟩
                    refine ⟨Fg.vT rfl (by decide) fun ac w h => ?_, ?_⟩
                    · have e0 : ac.tmps.getD 0 undef = Value.slice (some ⟨pb, po, none⟩) n c := h.rest 0 (by kernel_rfl)
                      exact ⟨_, w, wants_none rfl, Fg.run_move rfl e0, gb_refl _ _, rfl⟩
                    refine ⟨Fg.vT rfl (by decide) fun ac w h => ?_, ?_⟩
                    · have e77 : ac.tmps.getD 77 undef = Value.slice (some ⟨pb, po, none⟩) n c := h.dep 77 (by kernel_rfl)
                      have x77 : ac.tmps[77]?.getD undef = Value.slice (some ⟨pb, po, none⟩) n c := by simpa using e77
                      refine ⟨.int .i64 n, w, wants_none rfl, ?_, gb_refl _ _, rfl⟩
                      clear h e77
                      go_simp
                    refine ⟨Fg.vT rfl (by decide) fun ac w h => ?_, ?_⟩
                    · have e76 : ac.tmps.getD 76 undef = Value.int .i64 c0 := h.dep 76 (by kernel_rfl)
                      have e78 : ac.tmps.getD 78 undef = Value.int .i64 n := h.dep 78 (by kernel_rfl)
                      have i1 := HCL.out.1
                      have i2 := HCL.out.2
                      refine ⟨.bool true, w, wants_none rfl, ?_, gb_refl _ _, rfl⟩
                      clear h
                      simp only [execOp, Act.eval, e76, e78]
                      go_simp
                    refine ⟨Fg.vT rfl (by decide) fun ac w h => ?_, ?_⟩
                    · have e79 : ac.tmps.getD 79 undef = Value.bool true := h.dep 79 (by kernel_rfl)
                      exact ⟨_, w, wants_none rfl, Fg.run_move rfl e79, gb_refl _ _, rfl⟩
                    refine ⟨Fg.vT rfl (by decide) fun ac w h => ?_, ?_⟩
                    · have e80 : ac.tmps.getD 80 undef = Value.bool true := h.dep 80 (by kernel_rfl)
                      have e0 : ac.tmps.getD 0 undef = Value.slice (some ⟨pb, po, none⟩) n c := h.rest 0 (by kernel_rfl)
                      exact ⟨_, w, wants_some (d := 80) rfl rfl (by rw [h.size]; show 80 < 114; decide) e80, Fg.run_move rfl e0, gb_refl _ _, rfl⟩
                    refine ⟨Fg.vT rfl (by decide) fun ac w h => ?_, ?_⟩
                    · have e80 : ac.tmps.getD 80 undef = Value.bool true := h.dep 80 (by kernel_rfl)
                      have e3 : ac.tmps.getD 3 undef = Value.int .i64 i := h.rest 3 (by kernel_rfl)
                      exact ⟨_, w, wants_some (d := 80) rfl rfl (by rw [h.size]; show 80 < 114; decide) e80, Fg.run_move rfl e3, gb_refl _ _, rfl⟩
                    refine ⟨Fg.vT rfl (by decide) fun ac w h => ?_, ?_⟩
                    · have e80 : ac.tmps.getD 80 undef = Value.bool true := h.dep 80 (by kernel_rfl)
                      have e81 : ac.tmps.getD 81 undef = Value.slice (some ⟨pb, po, none⟩) n c := h.dep 81 (by kernel_rfl)
                      have e82 : ac.tmps.getD 82 undef = Value.int .i64 i := h.dep 82 (by kernel_rfl)
                      have i0 : (i : Int) < (n : Int) := by omega
                      refine ⟨.pointer (some ⟨pb, po + i * 7, none⟩), w, wants_some (d := 80) rfl rfl (by rw [h.size]; show 80 < 114; decide) e80, ?_, gb_refl _ _, rfl⟩
                      clear h
                      simp only [execOp, Act.eval, e81, e82]
                      go_simp
                    refine ⟨Fg.vT rfl (by decide) fun ac w h => ?_, ?_⟩
                    · have e80 : ac.tmps.getD 80 undef = Value.bool true := h.dep 80 (by kernel_rfl)
                      have e83 : ac.tmps.getD 83 undef = Value.pointer (some ⟨pb, po + i * 7, none⟩) := h.dep 83 (by kernel_rfl)
                      have m0 : w.cell? ⟨pb, po + i * 7 , none⟩ = some (.string rs) := by rw [gb_cell h.base (block_lt_of_cell (HXY.out.1.1)) (by simp)]; exact HXY.out.1.1
                      have m1 : w.cell? ⟨pb, po + i * 7 + 1, none⟩ = some (iV rcl) := by rw [gb_cell h.base (block_lt_of_cell (HXY.out.1.2.1)) (by simp)]; exact HXY.out.1.2.1
                      have m2 : w.cell? ⟨pb, po + i * 7 + 2, none⟩ = some (iV rsq) := by rw [gb_cell h.base (block_lt_of_cell (HXY.out.1.2.2.1)) (by simp)]; exact HXY.out.1.2.2.1
                      have m3 : w.cell? ⟨pb, po + i * 7 + 3, none⟩ = some (.slice ra1 rn1 rd1) := by rw [gb_cell h.base (block_lt_of_cell (HXY.out.1.2.2.2.1)) (by simp)]; exact HXY.out.1.2.2.2.1
                      have m4 : w.cell? ⟨pb, po + i * 7 + 4, none⟩ = some (.bool rg) := by rw [gb_cell h.base (block_lt_of_cell (HXY.out.1.2.2.2.2.1)) (by simp)]; exact HXY.out.1.2.2.2.2.1
                      have m5 : w.cell? ⟨pb, po + i * 7 + 5, none⟩ = some (.slice ra2 rn2 rd2) := by rw [gb_cell h.base (block_lt_of_cell (HXY.out.1.2.2.2.2.2.1)) (by simp)]; exact HXY.out.1.2.2.2.2.2.1
                      have m6 : w.cell? ⟨pb, po + i * 7 + 6, none⟩ = some (.slice ra3 rn3 rd3) := by rw [gb_cell h.base (block_lt_of_cell (HXY.out.1.2.2.2.2.2.2)) (by simp)]; exact HXY.out.1.2.2.2.2.2.2
                      refine ⟨vV rs rcl rsq ra1 rn1 rd1 rg ra2 rn2 rd2 ra3 rn3 rd3, w, wants_some (d := 80) rfl rfl (by rw [h.size]; show 80 < 114; decide) e80, ?_, gb_refl _ _, rfl⟩
                      clear h
                      simp only [execOp, Act.eval, e83]
                      go_simp
                    refine ⟨Fg.vT rfl (by decide) fun ac w h => ?_, ?_⟩
                    · have e80 : ac.tmps.getD 80 undef = Value.bool true := h.dep 80 (by kernel_rfl)
                      have e0 : ac.tmps.getD 0 undef = Value.slice (some ⟨pb, po, none⟩) n c := h.rest 0 (by kernel_rfl)
                      exact ⟨_, w, wants_some (d := 80) rfl rfl (by rw [h.size]; show 80 < 114; decide) e80, Fg.run_move rfl e0, gb_refl _ _, rfl⟩
                    refine ⟨Fg.vT rfl (by decide) fun ac w h => ?_, ?_⟩
                    · have e80 : ac.tmps.getD 80 undef = Value.bool true := h.dep 80 (by kernel_rfl)
                      have e4 : ac.tmps.getD 4 undef = Value.int .i64 j := h.rest 4 (by kernel_rfl)
                      exact ⟨_, w, wants_some (d := 80) rfl rfl (by rw [h.size]; show 80 < 114; decide) e80, Fg.run_move rfl e4, gb_refl _ _, rfl⟩
                    refine ⟨Fg.vT rfl (by decide) fun ac w h => ?_, ?_⟩
                    · have e80 : ac.tmps.getD 80 undef = Value.bool true := h.dep 80 (by kernel_rfl)
                      have e85 : ac.tmps.getD 85 undef = Value.slice (some ⟨pb, po, none⟩) n c := h.dep 85 (by kernel_rfl)
                      have e86 : ac.tmps.getD 86 undef = Value.int .i64 j := h.dep 86 (by kernel_rfl)
                      have i0 : (j : Int) < (n : Int) := by omega
                      refine ⟨.pointer (some ⟨pb, po + j * 7, none⟩), w, wants_some (d := 80) rfl rfl (by rw [h.size]; show 80 < 114; decide) e80, ?_, gb_refl _ _, rfl⟩
                      clear h
                      simp only [execOp, Act.eval, e85, e86]
                      go_simp
                    refine ⟨Fg.vT rfl (by decide) fun ac w h => ?_, ?_⟩
                    · have e80 : ac.tmps.getD 80 undef = Value.bool true := h.dep 80 (by kernel_rfl)
                      have e87 : ac.tmps.getD 87 undef = Value.pointer (some ⟨pb, po + j * 7, none⟩) := h.dep 87 (by kernel_rfl)
                      have m0 : w.cell? ⟨pb, po + j * 7 , none⟩ = some (.string rs') := by rw [gb_cell h.base (block_lt_of_cell (HXY.out.2.1)) (by simp)]; exact HXY.out.2.1
                      have m1 : w.cell? ⟨pb, po + j * 7 + 1, none⟩ = some (iV rcl') := by rw [gb_cell h.base (block_lt_of_cell (HXY.out.2.2.1)) (by simp)]; exact HXY.out.2.2.1
                      have m2 : w.cell? ⟨pb, po + j * 7 + 2, none⟩ = some (iV rsq') := by rw [gb_cell h.base (block_lt_of_cell (HXY.out.2.2.2.1)) (by simp)]; exact HXY.out.2.2.2.1
                      have m3 : w.cell? ⟨pb, po + j * 7 + 3, none⟩ = some (.slice ra1' rn1' rd1') := by rw [gb_cell h.base (block_lt_of_cell (HXY.out.2.2.2.2.1)) (by simp)]; exact HXY.out.2.2.2.2.1
                      have m4 : w.cell? ⟨pb, po + j * 7 + 4, none⟩ = some (.bool rg') := by rw [gb_cell h.base (block_lt_of_cell (HXY.out.2.2.2.2.2.1)) (by simp)]; exact HXY.out.2.2.2.2.2.1
                      have m5 : w.cell? ⟨pb, po + j * 7 + 5, none⟩ = some (.slice ra2' rn2' rd2') := by rw [gb_cell h.base (block_lt_of_cell (HXY.out.2.2.2.2.2.2.1)) (by simp)]; exact HXY.out.2.2.2.2.2.2.1
                      have m6 : w.cell? ⟨pb, po + j * 7 + 6, none⟩ = some (.slice ra3' rn3' rd3') := by rw [gb_cell h.base (block_lt_of_cell (HXY.out.2.2.2.2.2.2.2)) (by simp)]; exact HXY.out.2.2.2.2.2.2.2
                      refine ⟨vV rs' rcl' rsq' ra1' rn1' rd1' rg' ra2' rn2' rd2' ra3' rn3' rd3', w, wants_some (d := 80) rfl rfl (by rw [h.size]; show 80 < 114; decide) e80, ?_, gb_refl _ _, rfl⟩
                      clear h
                      simp only [execOp, Act.eval, e87]
                      go_simp
                    refine ⟨Fg.cT rfl (by decide) fun ac w h => ?_, ?_⟩
                    · have e80 : ac.tmps.getD 80 undef = Value.bool true := h.dep 80 (by kernel_rfl)
                      have e84 : ac.tmps.getD 84 undef = vV rs rcl rsq ra1 rn1 rd1 rg ra2 rn2 rd2 ra3 rn3 rd3 := h.dep 84 (by kernel_rfl)
                      have e88 : ac.tmps.getD 88 undef = vV rs' rcl' rsq' ra1' rn1' rd1' rg' ra2' rn2' rd2' ra3' rn3' rd3' := h.dep 88 (by kernel_rfl)
                      refine ⟨11, #[vV rs rcl rsq ra1 rn1 rd1 rg ra2 rn2 rd2 ra3 rn3 rd3, vV rs' rcl' rsq' ra1' rn1' rd1' rg' ra2' rn2' rd2' ra3' rn3' rd3'], wants_some (d := 80) rfl rfl (by rw [h.size]; show 80 < 114; decide) e80, Fg.run_call rfl rfl (by simp only [List.map_toArray, List.map_cons, List.map_nil, Act.eval, e84, e88]) (Fg.run_enter Try.func11 (by kernel_rfl) (by kernel_rfl)), ?_⟩
                      exact (HO1.out w (gb_trans HG2.out h.base)).mono fun _ _ ⟨he, hg⟩ => ⟨_, he, hg, rfl⟩
                    refine ⟨Fg.vT rfl (by decide) fun ac w h => ?_, ?_⟩
                    · have e80 : ac.tmps.getD 80 undef = Value.bool true := h.dep 80 (by kernel_rfl)
                      have e89 : ac.tmps.getD 89 undef = Value.bool zD := h.dep 89 (by kernel_rfl)
                      refine ⟨Value.bool zD, w, wants_none rfl, ?_, gb_refl _ _, rfl⟩
                      clear h
                      simp only [execOp, Act.eval, e80, e89]
                      go_simp
                    trivial
                  · intro aq wq hB hsz hdf hrest hslots hpt
                    obtain ⟨u76, e76⟩ : ∃ u, aq.tmps.getD 76 undef = u := ⟨_, rfl⟩
                    obtain ⟨u77, e77⟩ : ∃ u, aq.tmps.getD 77 undef = u := ⟨_, rfl⟩
                    obtain ⟨u78, e78⟩ : ∃ u, aq.tmps.getD 78 undef = u := ⟨_, rfl⟩
                    obtain ⟨u79, e79⟩ : ∃ u, aq.tmps.getD 79 undef = u := ⟨_, rfl⟩
                    obtain ⟨u80, e80⟩ : ∃ u, aq.tmps.getD 80 undef = u := ⟨_, rfl⟩
                    obtain ⟨u81, e81⟩ : ∃ u, aq.tmps.getD 81 undef = u := ⟨_, rfl⟩
                    obtain ⟨u82, e82⟩ : ∃ u, aq.tmps.getD 82 undef = u := ⟨_, rfl⟩
                    obtain ⟨u83, e83⟩ : ∃ u, aq.tmps.getD 83 undef = u := ⟨_, rfl⟩
                    obtain ⟨u84, e84⟩ : ∃ u, aq.tmps.getD 84 undef = u := ⟨_, rfl⟩
                    obtain ⟨u85, e85⟩ : ∃ u, aq.tmps.getD 85 undef = u := ⟨_, rfl⟩
                    obtain ⟨u86, e86⟩ : ∃ u, aq.tmps.getD 86 undef = u := ⟨_, rfl⟩
                    obtain ⟨u87, e87⟩ : ∃ u, aq.tmps.getD 87 undef = u := ⟨_, rfl⟩
                    obtain ⟨u88, e88⟩ : ∃ u, aq.tmps.getD 88 undef = u := ⟨_, rfl⟩
                    obtain ⟨u89, e89⟩ : ∃ u, aq.tmps.getD 89 undef = u := ⟨_, rfl⟩
                    have e90 : aq.tmps.getD 90 undef = Value.bool zD := hslots 90 (by kernel_rfl)
                    obtain rfl := Fg.frame_is (a := aq) (vs := [Value.slice (some ⟨pb, po, none⟩) n c, undef, u2, Value.int .i64 i, Value.int .i64 j, Value.int .i64 c0, Value.int .i64 i, Value.slice (some ⟨pb, po, none⟩) n c, Value.int .i64 n, Value.bool true, u10, u11, Value.int .i64 j, Value.slice (some ⟨pb, po, none⟩) n c, Value.int .i64 n, Value.bool true, u16, u17, u18, u19, u20, u21, u22, u23, u24, u25, u26, u27, u28, u29, u30, u31, u32, u33, u34, u35, u36, u37, u38, u39, u40, u41, u42, u43, u44, u45, u46, u47, u48, u49, u50, u51, u52, u53, u54, u55, u56, u57, u58, u59, u60, u61, u62, u63, u64, u65, u66, u67, u68, u69, u70, u71, u72, u73, u74, Value.bool false, u76, u77, u78, u79, u80, u81, u82, u83, u84, u85, u86, u87, u88, u89, Value.bool zD, u91, u92, u93, u94, u95, u96, u97, u98, u99, u100, u101, u102, u103, u104, u105, u106, u107, u108, u109, u110, u111, u112, u113]) hsz ⟨hrest 0 (by kernel_rfl), hrest 1 (by kernel_rfl), hrest 2 (by kernel_rfl), hrest 3 (by kernel_rfl), hrest 4 (by kernel_rfl), hrest 5 (by kernel_rfl), hrest 6 (by kernel_rfl), hrest 7 (by kernel_rfl), hrest 8 (by kernel_rfl), hrest 9 (by kernel_rfl), hrest 10 (by kernel_rfl), hrest 11 (by kernel_rfl), hrest 12 (by kernel_rfl), hrest 13 (by kernel_rfl), hrest 14 (by kernel_rfl), hrest 15 (by kernel_rfl), hrest 16 (by kernel_rfl), hrest 17 (by kernel_rfl), hrest 18 (by kernel_rfl), hrest 19 (by kernel_rfl), hrest 20 (by kernel_rfl), hrest 21 (by kernel_rfl), hrest 22 (by kernel_rfl), hrest 23 (by kernel_rfl), hrest 24 (by kernel_rfl), hrest 25 (by kernel_rfl), hrest 26 (by kernel_rfl), hrest 27 (by kernel_rfl), hrest 28 (by kernel_rfl), hrest 29 (by kernel_rfl), hrest 30 (by kernel_rfl), hrest 31 (by kernel_rfl), hrest 32 (by kernel_rfl), hrest 33 (by kernel_rfl), hrest 34 (by kernel_rfl), hrest 35 (by kernel_rfl), hrest 36 (by kernel_rfl), hrest 37 (by kernel_rfl), hrest 38 (by kernel_rfl), hrest 39 (by kernel_rfl), hrest 40 (by kernel_rfl), hrest 41 (by kernel_rfl), hrest 42 (by kernel_rfl), hrest 43 (by kernel_rfl), hrest 44 (by kernel_rfl), hrest 45 (by kernel_rfl), hrest 46 (by kernel_rfl), hrest 47 (by kernel_rfl), hrest 48 (by kernel_rfl), hrest 49 (by kernel_rfl), hrest 50 (by kernel_rfl), hrest 51 (by kernel_rfl), hrest 52 (by kernel_rfl), hrest 53 (by kernel_rfl), hrest 54 (by kernel_rfl), hrest 55 (by kernel_rfl), hrest 56 (by kernel_rfl), hrest 57 (by kernel_rfl), hrest 58 (by kernel_rfl), hrest 59 (by kernel_rfl), hrest 60 (by kernel_rfl), hrest 61 (by kernel_rfl), hrest 62 (by kernel_rfl), hrest 63 (by kernel_rfl), hrest 64 (by kernel_rfl), hrest 65 (by kernel_rfl), hrest 66 (by kernel_rfl), hrest 67 (by kernel_rfl), hrest 68 (by kernel_rfl), hrest 69 (by kernel_rfl), hrest 70 (by kernel_rfl), hrest 71 (by kernel_rfl), hrest 72 (by kernel_rfl), hrest 73 (by kernel_rfl), hrest 74 (by kernel_rfl), hrest 75 (by kernel_rfl), e76, e77, e78, e79, e80, e81, e82, e83, e84, e85, e86, e87, e88, e89, e90, hrest 91 (by kernel_rfl), hrest 92 (by kernel_rfl), hrest 93 (by kernel_rfl), hrest 94 (by kernel_rfl), hrest 95 (by kernel_rfl), hrest 96 (by kernel_rfl), hrest 97 (by kernel_rfl), hrest 98 (by kernel_rfl), hrest 99 (by kernel_rfl), hrest 100 (by kernel_rfl), hrest 101 (by kernel_rfl), hrest 102 (by kernel_rfl), hrest 103 (by kernel_rfl), hrest 104 (by kernel_rfl), hrest 105 (by kernel_rfl), hrest 106 (by kernel_rfl), hrest 107 (by kernel_rfl), hrest 108 (by kernel_rfl), hrest 109 (by kernel_rfl), hrest 110 (by kernel_rfl), hrest 111 (by kernel_rfl), hrest 112 (by kernel_rfl), hrest 113 (by kernel_rfl), trivial⟩ hdf
                    clear hsz hdf hrest hslots hpt e76 e77 e78 e79 e80 e81 e82 e83 e84 e85 e86 e87 e88 e89 e90
                    have HGp := Lib.hid (gb_trans HG2.out hB)
                    clear hB HG2 HXY
                    refine wpList_nil ?_
                    cases zD with
                    | false =>
                      have HT : Hid (∀ b, b < j + 1 → okB l i b) := HFIN.out (by simp) (fun h => by cases h)
                      go_wp2
                      exact ⟨⟨j + 1, by omega, rfl, HGp.out, HT.out⟩, by show n - ((j : Int) + 1).toNat < n - (j : Int).toNat; omega⟩
                    | true =>
                      obtain ⟨zP, hP⟩ : ∃ z, overB (l.getD j e0).2 (l.getD c0 e0).2 = z := ⟨_, rfl⟩
                      obtain ⟨zQ, hQ⟩ : ∃ z, overB (l.getD i e0).2 (l.getD c0 e0).2 = z := ⟨_, rfl⟩
                      have hz := HCS.out c0 (by rw [HN.out.1]; exact hcl)
                      have ho3 := HOV.out j c0 hjl hcl
                      have ho4 := HOV.out i c0 hil hcl
                      rw [hP] at ho3
                      rw [hQ] at ho4
                      have HK2 : Hid ((zP && !zQ) = false → ∀ b, b < c0 + 1 → overB (l.getD j e0).2 (l.getD b e0).2 = true → overB (l.getD i e0).2 (l.getD b e0).2 = true) := by
                        intro h b hb e1
                        rcases (by omega : b < c0 ∨ b = c0) with hb | rfl
                        · exact HK.out.2 rfl b hb e1
                        · rw [← hP, ← hQ, e1] at h
                          simpa using h
                      obtain ⟨zR, hzR⟩ : ∃ z, z = (zP && !zQ) := ⟨_, rfl⟩
                      rw [← hzR] at HK2
                      have HZR := Lib.hid hzR
                      clear hzR hP hQ HK
                      obtain ⟨z, hze⟩ : ∃ z, z = l.getD c0 e0 := ⟨_, rfl⟩
                      simp only [← hze] at hz ho3 ho4
                      obtain ⟨⟨rs'', ra1'', rn1'', rd1'', ra2'', rn2'', rd2'', ra3'', rn3'', rd3''⟩, ⟨rkey'', rcl'', rsq'', rcx'', rg'', rval'', rsig''⟩⟩ := z
                      clear hze
                      rw [← HYE.out] at ho3
                      rw [← HXE.out] at ho4
                      have HO3 : Hid (∀ w', w.grownBy w' none → Calls Try.prog 11 #[vV rs' rcl' rsq' ra1' rn1' rd1' rg' ra2' rn2' rd2' ra3' rn3' rd3', vV rs'' rcl'' rsq'' ra1'' rn1'' rd1'' rg'' ra2'' rn2'' rd2'' ra3'' rn3'' rd3''] w' fun e w'' => e = .returned (.bool zP) ∧ w'.grownBy w'' none) := ho3
                      have HO4 : Hid (∀ w', w.grownBy w' none → Calls Try.prog 11 #[vV rs rcl rsq ra1 rn1 rd1 rg ra2 rn2 rd2 ra3 rn3 rd3, vV rs'' rcl'' rsq'' ra1'' rn1'' rd1'' rg'' ra2'' rn2'' rd2'' ra3'' rn3'' rd3''] w' fun e w'' => e = .returned (.bool zQ) ∧ w'.grownBy w'' none) := ho4
                      clear ho3 ho4
                      obtain ⟨w2, hw2⟩ : ∃ w2, w2 = wq := ⟨_, rfl⟩
                      have HG2 := Lib.hid HGp.out
                      have HXY := Lib.hid (HXYS.out wq HG2.out)
                      have HXZ := Lib.hid (cells_of (hz.stay HG2.out))
                      clear hz
                      rw [← hw2] at HXY HXZ HG2
                      go_wp2_with fail
                      rw [← hw2]
                      clear hw2 HGp
                      refine Fg.region_t [] [.any, .any, .any, .any, .any, .any, .any, .any, .any, .any, .any, .any, .any, .any, .any, .any, .any, .any, .any, .any, .any, .any, .any, .any, .any, .any, .any, .any, .any, .any, .any, .any, .any, .any, .any, .any, .any, .any, .any, .any, .any, .any, .any, .any, .any, .any, .any, .any, .any, .any, .any, .any, .any, .any, .any, .any, .any, .any, .any, .any, .any, .any, .any, .any, .any, .any, .any, .any, .any, .any, .any, .any, .any, .any, .any, .any, .any, .any, .any, .any, .any, .any, .any, .any, .any, .any, .any, .any, .any, .any, .any, .any, .any, .val (Value.slice (some ⟨pb, po, none⟩) n c), .val (Value.int .i64 j), .val (Value.pointer (some ⟨pb, po + j * 7, none⟩)), .val (vV rs' rcl' rsq' ra1' rn1' rd1' rg' ra2' rn2' rd2' ra3' rn3' rd3'), .val (Value.slice (some ⟨pb, po, none⟩) n c), .val (Value.int .i64 c0), .val (Value.pointer (some ⟨pb, po + c0 * 7, none⟩)), .val (vV rs'' rcl'' rsq'' ra1'' rn1'' rd1'' rg'' ra2'' rn2'' rd2'' ra3'' rn3'' rd3''), .val (Value.bool zP), .val (Value.bool zP), (cond zP (.val (Value.slice (some ⟨pb, po, none⟩) n c)) (.val undef)), (cond zP (.val (Value.int .i64 i)) (.val undef)), (cond zP (.val (Value.pointer (some ⟨pb, po + i * 7, none⟩))) (.val undef)), (cond zP (.val (vV rs rcl rsq ra1 rn1 rd1 rg ra2 rn2 rd2 ra3 rn3 rd3)) (.val undef)), (cond zP (.val (Value.slice (some ⟨pb, po, none⟩) n c)) (.val undef)), (cond zP (.val (Value.int .i64 c0)) (.val undef)), (cond zP (.val (Value.pointer (some ⟨pb, po + c0 * 7, none⟩))) (.val undef)), (cond zP (.val (vV rs'' rcl'' rsq'' ra1'' rn1'' rd1'' rg'' ra2'' rn2'' rd2'' ra3'' rn3'' rd3'')) (.val undef)), (cond zP (.val (Value.bool zQ)) (.val undef)), (cond zP ((cond zQ (.val (Value.bool false)) (.val (Value.bool true)))) (.val undef)), .val (Value.bool zR)] w2 21 (gb_refl _ _) (by kernel_rfl) (by kernel_rfl) (by kernel_rfl) (by kernel_rfl) (by decide) (by kernel_rfl) ?_ ?_
                      · refine ⟨Fg.vT rfl (by decide) fun ac w h => ?_, ?_⟩
                        · have e0 : ac.tmps.getD 0 undef = Value.slice (some ⟨pb, po, none⟩) n c := h.rest 0 (by kernel_rfl)
                          exact ⟨_, w, wants_none rfl, Fg.run_move rfl e0, gb_refl _ _, rfl⟩
                        refine ⟨Fg.vT rfl (by decide) fun ac w h => ?_, ?_⟩
                        · have e4 : ac.tmps.getD 4 undef = Value.int .i64 j := h.rest 4 (by kernel_rfl)
                          exact ⟨_, w, wants_none rfl, Fg.run_move rfl e4, gb_refl _ _, rfl⟩
                        refine ⟨Fg.vT rfl (by decide) fun ac w h => ?_, ?_⟩
                        · have e93 : ac.tmps.getD 93 undef = Value.slice (some ⟨pb, po, none⟩) n c := h.dep 93 (by kernel_rfl)
                          have e94 : ac.tmps.getD 94 undef = Value.int .i64 j := h.dep 94 (by kernel_rfl)
                          have i0 : (j : Int) < (n : Int) := by omega
                          refine ⟨.pointer (some ⟨pb, po + j * 7, none⟩), w, wants_none rfl, ?_, gb_refl _ _, rfl⟩
                          clear h
                          simp only [execOp, Act.eval, e93, e94]
                          go_simp
                        refine ⟨Fg.vT rfl (by decide) fun ac w h => ?_, ?_⟩
                        · have e95 : ac.tmps.getD 95 undef = Value.pointer (some ⟨pb, po + j * 7, none⟩) := h.dep 95 (by kernel_rfl)
                          have m0 : w.cell? ⟨pb, po + j * 7 , none⟩ = some (.string rs') := by rw [gb_cell h.base (block_lt_of_cell (HXY.out.2.1)) (by simp)]; exact HXY.out.2.1
                          have m1 : w.cell? ⟨pb, po + j * 7 + 1, none⟩ = some (iV rcl') := by rw [gb_cell h.base (block_lt_of_cell (HXY.out.2.2.1)) (by simp)]; exact HXY.out.2.2.1
                          have m2 : w.cell? ⟨pb, po + j * 7 + 2, none⟩ = some (iV rsq') := by rw [gb_cell h.base (block_lt_of_cell (HXY.out.2.2.2.1)) (by simp)]; exact HXY.out.2.2.2.1
                          have m3 : w.cell? ⟨pb, po + j * 7 + 3, none⟩ = some (.slice ra1' rn1' rd1') := by rw [gb_cell h.base (block_lt_of_cell (HXY.out.2.2.2.2.1)) (by simp)]; exact HXY.out.2.2.2.2.1
                          have m4 : w.cell? ⟨pb, po + j * 7 + 4, none⟩ = some (.bool rg') := by rw [gb_cell h.base (block_lt_of_cell (HXY.out.2.2.2.2.2.1)) (by simp)]; exact HXY.out.2.2.2.2.2.1
                          have m5 : w.cell? ⟨pb, po + j * 7 + 5, none⟩ = some (.slice ra2' rn2' rd2') := by rw [gb_cell h.base (block_lt_of_cell (HXY.out.2.2.2.2.2.2.1)) (by simp)]; exact HXY.out.2.2.2.2.2.2.1
                          have m6 : w.cell? ⟨pb, po + j * 7 + 6, none⟩ = some (.slice ra3' rn3' rd3') := by rw [gb_cell h.base (block_lt_of_cell (HXY.out.2.2.2.2.2.2.2)) (by simp)]; exact HXY.out.2.2.2.2.2.2.2
                          refine ⟨vV rs' rcl' rsq' ra1' rn1' rd1' rg' ra2' rn2' rd2' ra3' rn3' rd3', w, wants_none rfl, ?_, gb_refl _ _, rfl⟩
                          clear h
                          simp only [execOp, Act.eval, e95]
                          go_simp
                        refine ⟨Fg.vT rfl (by decide) fun ac w h => ?_, ?_⟩
                        · have e0 : ac.tmps.getD 0 undef = Value.slice (some ⟨pb, po, none⟩) n c := h.rest 0 (by kernel_rfl)
                          exact ⟨_, w, wants_none rfl, Fg.run_move rfl e0, gb_refl _ _, rfl⟩
                        refine ⟨Fg.vT rfl (by decide) fun ac w h => ?_, ?_⟩
                        · have e5 : ac.tmps.getD 5 undef = Value.int .i64 c0 := h.rest 5 (by kernel_rfl)
                          exact ⟨_, w, wants_none rfl, Fg.run_move rfl e5, gb_refl _ _, rfl⟩
                        refine ⟨Fg.vT rfl (by decide) fun ac w h => ?_, ?_⟩
                        · have e97 : ac.tmps.getD 97 undef = Value.slice (some ⟨pb, po, none⟩) n c := h.dep 97 (by kernel_rfl)
                          have e98 : ac.tmps.getD 98 undef = Value.int .i64 c0 := h.dep 98 (by kernel_rfl)
                          have i0 : (c0 : Int) < (n : Int) := by omega
                          refine ⟨.pointer (some ⟨pb, po + c0 * 7, none⟩), w, wants_none rfl, ?_, gb_refl _ _, rfl⟩
                          clear h
                          simp only [execOp, Act.eval, e97, e98]
                          go_simp
                        refine ⟨Fg.vT rfl (by decide) fun ac w h => ?_, ?_⟩
                        · have e99 : ac.tmps.getD 99 undef = Value.pointer (some ⟨pb, po + c0 * 7, none⟩) := h.dep 99 (by kernel_rfl)
                          have m0 : w.cell? ⟨pb, po + c0 * 7 , none⟩ = some (.string rs'') := by rw [gb_cell h.base (block_lt_of_cell (HXZ.out.1)) (by simp)]; exact HXZ.out.1
                          have m1 : w.cell? ⟨pb, po + c0 * 7 + 1, none⟩ = some (iV rcl'') := by rw [gb_cell h.base (block_lt_of_cell (HXZ.out.2.1)) (by simp)]; exact HXZ.out.2.1
                          have m2 : w.cell? ⟨pb, po + c0 * 7 + 2, none⟩ = some (iV rsq'') := by rw [gb_cell h.base (block_lt_of_cell (HXZ.out.2.2.1)) (by simp)]; exact HXZ.out.2.2.1
                          have m3 : w.cell? ⟨pb, po + c0 * 7 + 3, none⟩ = some (.slice ra1'' rn1'' rd1'') := by rw [gb_cell h.base (block_lt_of_cell (HXZ.out.2.2.2.1)) (by simp)]; exact HXZ.out.2.2.2.1
                          have m4 : w.cell? ⟨pb, po + c0 * 7 + 4, none⟩ = some (.bool rg'') := by rw [gb_cell h.base (block_lt_of_cell (HXZ.out.2.2.2.2.1)) (by simp)]; exact HXZ.out.2.2.2.2.1
                          have m5 : w.cell? ⟨pb, po + c0 * 7 + 5, none⟩ = some (.slice ra2'' rn2'' rd2'') := by rw [gb_cell h.base (block_lt_of_cell (HXZ.out.2.2.2.2.2.1)) (by simp)]; exact HXZ.out.2.2.2.2.2.1
                          have m6 : w.cell? ⟨pb, po + c0 * 7 + 6, none⟩ = some (.slice ra3'' rn3'' rd3'') := by rw [gb_cell h.base (block_lt_of_cell (HXZ.out.2.2.2.2.2.2)) (by simp)]; exact HXZ.out.2.2.2.2.2.2
                          refine ⟨vV rs'' rcl'' rsq'' ra1'' rn1'' rd1'' rg'' ra2'' rn2'' rd2'' ra3'' rn3'' rd3'', w, wants_none rfl, ?_, gb_refl _ _, rfl⟩
                          clear h
                          simp only [execOp, Act.eval, e99]
                          go_simp
                        refine ⟨Fg.cT rfl (by decide) fun ac w h => ?_, ?_⟩
                        · have e96 : ac.tmps.getD 96 undef = vV rs' rcl' rsq' ra1' rn1' rd1' rg' ra2' rn2' rd2' ra3' rn3' rd3' := h.dep 96 (by kernel_rfl)
                          have e100 : ac.tmps.getD 100 undef = vV rs'' rcl'' rsq'' ra1'' rn1'' rd1'' rg'' ra2'' rn2'' rd2'' ra3'' rn3'' rd3'' := h.dep 100 (by kernel_rfl)
                          refine ⟨11, #[vV rs' rcl' rsq' ra1' rn1' rd1' rg' ra2' rn2' rd2' ra3' rn3' rd3', vV rs'' rcl'' rsq'' ra1'' rn1'' rd1'' rg'' ra2'' rn2'' rd2'' ra3'' rn3'' rd3''], wants_none rfl, Fg.run_call rfl rfl (by simp only [List.map_toArray, List.map_cons, List.map_nil, Act.eval, e96, e100]) (Fg.run_enter Try.func11 (by kernel_rfl) (by kernel_rfl)), ?_⟩
                          exact (HO3.out w (gb_trans HG2.out h.base)).mono fun _ _ ⟨he, hg⟩ => ⟨_, he, hg, rfl⟩
                        refine ⟨Fg.vT rfl (by decide) fun ac w h => ?_, ?_⟩
                        · have e101 : ac.tmps.getD 101 undef = Value.bool zP := h.dep 101 (by kernel_rfl)
                          exact ⟨_, w, wants_none rfl, Fg.run_move rfl e101, gb_refl _ _, rfl⟩
                        refine ⟨?_, ?_⟩
                        · cases zP with
                          | false =>
                            refine Fg.sT rfl (by decide) (fun _ => rfl) fun ac w h => ?_
                            have e102 : ac.tmps.getD 102 undef = Value.bool false := h.dep 102 (by kernel_rfl)
                            exact not_wants (d := 102) rfl rfl (by rw [h.size]; show 102 < 114; decide) e102 (by decide)
                          | true =>
                            refine Fg.vT rfl (by decide) fun ac w h => ?_
                            have e102 : ac.tmps.getD 102 undef = Value.bool true := h.dep 102 (by kernel_rfl)
                            have e0 : ac.tmps.getD 0 undef = Value.slice (some ⟨pb, po, none⟩) n c := h.rest 0 (by kernel_rfl)
                            exact ⟨_, w, wants_some (d := 102) rfl rfl (by rw [h.size]; show 102 < 114; decide) e102, Fg.run_move rfl e0, gb_refl _ _, rfl⟩
                        refine ⟨?_, ?_⟩
                        · cases zP with
                          | false =>
                            refine Fg.sT rfl (by decide) (fun _ => rfl) fun ac w h => ?_
                            have e102 : ac.tmps.getD 102 undef = Value.bool false := h.dep 102 (by kernel_rfl)
                            exact not_wants (d := 102) rfl rfl (by rw [h.size]; show 102 < 114; decide) e102 (by decide)
                          | true =>
                            refine Fg.vT rfl (by decide) fun ac w h => ?_
                            have e102 : ac.tmps.getD 102 undef = Value.bool true := h.dep 102 (by kernel_rfl)
                            have e3 : ac.tmps.getD 3 undef = Value.int .i64 i := h.rest 3 (by kernel_rfl)
                            exact ⟨_, w, wants_some (d := 102) rfl rfl (by rw [h.size]; show 102 < 114; decide) e102, Fg.run_move rfl e3, gb_refl _ _, rfl⟩
                        refine ⟨?_, ?_⟩
                        · cases zP with
                          | false =>
                            refine Fg.sT rfl (by decide) (fun _ => rfl) fun ac w h => ?_
                            have e102 : ac.tmps.getD 102 undef = Value.bool false := h.dep 102 (by kernel_rfl)
                            exact not_wants (d := 102) rfl rfl (by rw [h.size]; show 102 < 114; decide) e102 (by decide)
                          | true =>
                            refine Fg.vT rfl (by decide) fun ac w h => ?_
                            have e102 : ac.tmps.getD 102 undef = Value.bool true := h.dep 102 (by kernel_rfl)
                            have e103 : ac.tmps.getD 103 undef = Value.slice (some ⟨pb, po, none⟩) n c := h.dep 103 (by kernel_rfl)
                            have e104 : ac.tmps.getD 104 undef = Value.int .i64 i := h.dep 104 (by kernel_rfl)
                            have i0 : (i : Int) < (n : Int) := by omega
                            refine ⟨.pointer (some ⟨pb, po + i * 7, none⟩), w, wants_some (d := 102) rfl rfl (by rw [h.size]; show 102 < 114; decide) e102, ?_, gb_refl _ _, rfl⟩
                            clear h
                            simp only [execOp, Act.eval, e103, e104]
                            go_simp
                        refine ⟨?_, ?_⟩
                        · cases zP with
                          | false =>
                            refine Fg.sT rfl (by decide) (fun _ => rfl) fun ac w h => ?_
                            have e102 : ac.tmps.getD 102 undef = Value.bool false := h.dep 102 (by kernel_rfl)
                            exact not_wants (d := 102) rfl rfl (by rw [h.size]; show 102 < 114; decide) e102 (by decide)
                          | true =>
                            refine Fg.vT rfl (by decide) fun ac w h => ?_
                            have e102 : ac.tmps.getD 102 undef = Value.bool true := h.dep 102 (by kernel_rfl)
                            have e105 : ac.tmps.getD 105 undef = Value.pointer (some ⟨pb, po + i * 7, none⟩) := h.dep 105 (by kernel_rfl)
                            have m0 : w.cell? ⟨pb, po + i * 7 , none⟩ = some (.string rs) := by rw [gb_cell h.base (block_lt_of_cell (HXY.out.1.1)) (by simp)]; exact HXY.out.1.1
                            have m1 : w.cell? ⟨pb, po + i * 7 + 1, none⟩ = some (iV rcl) := by rw [gb_cell h.base (block_lt_of_cell (HXY.out.1.2.1)) (by simp)]; exact HXY.out.1.2.1
                            have m2 : w.cell? ⟨pb, po + i * 7 + 2, none⟩ = some (iV rsq) := by rw [gb_cell h.base (block_lt_of_cell (HXY.out.1.2.2.1)) (by simp)]; exact HXY.out.1.2.2.1
                            have m3 : w.cell? ⟨pb, po + i * 7 + 3, none⟩ = some (.slice ra1 rn1 rd1) := by rw [gb_cell h.base (block_lt_of_cell (HXY.out.1.2.2.2.1)) (by simp)]; exact HXY.out.1.2.2.2.1
                            have m4 : w.cell? ⟨pb, po + i * 7 + 4, none⟩ = some (.bool rg) := by rw [gb_cell h.base (block_lt_of_cell (HXY.out.1.2.2.2.2.1)) (by simp)]; exact HXY.out.1.2.2.2.2.1
                            have m5 : w.cell? ⟨pb, po + i * 7 + 5, none⟩ = some (.slice ra2 rn2 rd2) := by rw [gb_cell h.base (block_lt_of_cell (HXY.out.1.2.2.2.2.2.1)) (by simp)]; exact HXY.out.1.2.2.2.2.2.1
                            have m6 : w.cell? ⟨pb, po + i * 7 + 6, none⟩ = some (.slice ra3 rn3 rd3) := by rw [gb_cell h.base (block_lt_of_cell (HXY.out.1.2.2.2.2.2.2)) (by simp)]; exact HXY.out.1.2.2.2.2.2.2
                            refine ⟨vV rs rcl rsq ra1 rn1 rd1 rg ra2 rn2 rd2 ra3 rn3 rd3, w, wants_some (d := 102) rfl rfl (by rw [h.size]; show 102 < 114; decide) e102, ?_, gb_refl _ _, rfl⟩
                            clear h
                            simp only [execOp, Act.eval, e105]
                            go_simp
                        refine ⟨?_, ?_⟩
                        · cases zP with
                          | false =>
                            refine Fg.sT rfl (by decide) (fun _ => rfl) fun ac w h => ?_
                            have e102 : ac.tmps.getD 102 undef = Value.bool false := h.dep 102 (by kernel_rfl)
                            exact not_wants (d := 102) rfl rfl (by rw [h.size]; show 102 < 114; decide) e102 (by decide)
                          | true =>
                            refine Fg.vT rfl (by decide) fun ac w h => ?_
                            have e102 : ac.tmps.getD 102 undef = Value.bool true := h.dep 102 (by kernel_rfl)
                            have e0 : ac.tmps.getD 0 undef = Value.slice (some ⟨pb, po, none⟩) n c := h.rest 0 (by kernel_rfl)
                            exact ⟨_, w, wants_some (d := 102) rfl rfl (by rw [h.size]; show 102 < 114; decide) e102, Fg.run_move rfl e0, gb_refl _ _, rfl⟩
                        refine ⟨?_, ?_⟩
                        · cases zP with
                          | false =>
                            refine Fg.sT rfl (by decide) (fun _ => rfl) fun ac w h => ?_
                            have e102 : ac.tmps.getD 102 undef = Value.bool false := h.dep 102 (by kernel_rfl)
                            exact not_wants (d := 102) rfl rfl (by rw [h.size]; show 102 < 114; decide) e102 (by decide)
                          | true =>
                            refine Fg.vT rfl (by decide) fun ac w h => ?_
                            have e102 : ac.tmps.getD 102 undef = Value.bool true := h.dep 102 (by kernel_rfl)
                            have e5 : ac.tmps.getD 5 undef = Value.int .i64 c0 := h.rest 5 (by kernel_rfl)
                            exact ⟨_, w, wants_some (d := 102) rfl rfl (by rw [h.size]; show 102 < 114; decide) e102, Fg.run_move rfl e5, gb_refl _ _, rfl⟩
                        refine ⟨?_, ?_⟩
                        · cases zP with
                          | false =>
                            refine Fg.sT rfl (by decide) (fun _ => rfl) fun ac w h => ?_
                            have e102 : ac.tmps.getD 102 undef = Value.bool false := h.dep 102 (by kernel_rfl)
                            exact not_wants (d := 102) rfl rfl (by rw [h.size]; show 102 < 114; decide) e102 (by decide)
                          | true =>
                            refine Fg.vT rfl (by decide) fun ac w h => ?_
                            have e102 : ac.tmps.getD 102 undef = Value.bool true := h.dep 102 (by kernel_rfl)
                            have e107 : ac.tmps.getD 107 undef = Value.slice (some ⟨pb, po, none⟩) n c := h.dep 107 (by kernel_rfl)
                            have e108 : ac.tmps.getD 108 undef = Value.int .i64 c0 := h.dep 108 (by kernel_rfl)
                            have i0 : (c0 : Int) < (n : Int) := by omega
                            refine ⟨.pointer (some ⟨pb, po + c0 * 7, none⟩), w, wants_some (d := 102) rfl rfl (by rw [h.size]; show 102 < 114; decide) e102, ?_, gb_refl _ _, rfl⟩
                            clear h
                            simp only [execOp, Act.eval, e107, e108]
                            go_simp
                        refine ⟨?_, ?_⟩
                        · cases zP with
                          | false =>
                            refine Fg.sT rfl (by decide) (fun _ => rfl) fun ac w h => ?_
                            have e102 : ac.tmps.getD 102 undef = Value.bool false := h.dep 102 (by kernel_rfl)
                            exact not_wants (d := 102) rfl rfl (by rw [h.size]; show 102 < 114; decide) e102 (by decide)
                          | true =>
                            refine Fg.vT rfl (by decide) fun ac w h => ?_
                            have e102 : ac.tmps.getD 102 undef = Value.bool true := h.dep 102 (by kernel_rfl)
                            have e109 : ac.tmps.getD 109 undef = Value.pointer (some ⟨pb, po + c0 * 7, none⟩) := h.dep 109 (by kernel_rfl)
                            have m0 : w.cell? ⟨pb, po + c0 * 7 , none⟩ = some (.string rs'') := by rw [gb_cell h.base (block_lt_of_cell (HXZ.out.1)) (by simp)]; exact HXZ.out.1
                            have m1 : w.cell? ⟨pb, po + c0 * 7 + 1, none⟩ = some (iV rcl'') := by rw [gb_cell h.base (block_lt_of_cell (HXZ.out.2.1)) (by simp)]; exact HXZ.out.2.1
                            have m2 : w.cell? ⟨pb, po + c0 * 7 + 2, none⟩ = some (iV rsq'') := by rw [gb_cell h.base (block_lt_of_cell (HXZ.out.2.2.1)) (by simp)]; exact HXZ.out.2.2.1
                            have m3 : w.cell? ⟨pb, po + c0 * 7 + 3, none⟩ = some (.slice ra1'' rn1'' rd1'') := by rw [gb_cell h.base (block_lt_of_cell (HXZ.out.2.2.2.1)) (by simp)]; exact HXZ.out.2.2.2.1
                            have m4 : w.cell? ⟨pb, po + c0 * 7 + 4, none⟩ = some (.bool rg'') := by rw [gb_cell h.base (block_lt_of_cell (HXZ.out.2.2.2.2.1)) (by simp)]; exact HXZ.out.2.2.2.2.1
                            have m5 : w.cell? ⟨pb, po + c0 * 7 + 5, none⟩ = some (.slice ra2'' rn2'' rd2'') := by rw [gb_cell h.base (block_lt_of_cell (HXZ.out.2.2.2.2.2.1)) (by simp)]; exact HXZ.out.2.2.2.2.2.1
                            have m6 : w.cell? ⟨pb, po + c0 * 7 + 6, none⟩ = some (.slice ra3'' rn3'' rd3'') := by rw [gb_cell h.base (block_lt_of_cell (HXZ.out.2.2.2.2.2.2)) (by simp)]; exact HXZ.out.2.2.2.2.2.2
                            refine ⟨vV rs'' rcl'' rsq'' ra1'' rn1'' rd1'' rg'' ra2'' rn2'' rd2'' ra3'' rn3'' rd3'', w, wants_some (d := 102) rfl rfl (by rw [h.size]; show 102 < 114; decide) e102, ?_, gb_refl _ _, rfl⟩
                            clear h
                            simp only [execOp, Act.eval, e109]
                            go_simp
                        refine ⟨?_, ?_⟩
                        · cases zP with
                          | false =>
                            refine Fg.sT rfl (by decide) (fun _ => rfl) fun ac w h => ?_
                            have e102 : ac.tmps.getD 102 undef = Value.bool false := h.dep 102 (by kernel_rfl)
                            exact not_wants (d := 102) rfl rfl (by rw [h.size]; show 102 < 114; decide) e102 (by decide)
                          | true =>
                            refine Fg.cT rfl (by decide) fun ac w h => ?_
                            have e102 : ac.tmps.getD 102 undef = Value.bool true := h.dep 102 (by kernel_rfl)
                            have e106 : ac.tmps.getD 106 undef = vV rs rcl rsq ra1 rn1 rd1 rg ra2 rn2 rd2 ra3 rn3 rd3 := h.dep 106 (by kernel_rfl)
                            have e110 : ac.tmps.getD 110 undef = vV rs'' rcl'' rsq'' ra1'' rn1'' rd1'' rg'' ra2'' rn2'' rd2'' ra3'' rn3'' rd3'' := h.dep 110 (by kernel_rfl)
                            refine ⟨11, #[vV rs rcl rsq ra1 rn1 rd1 rg ra2 rn2 rd2 ra3 rn3 rd3, vV rs'' rcl'' rsq'' ra1'' rn1'' rd1'' rg'' ra2'' rn2'' rd2'' ra3'' rn3'' rd3''], wants_some (d := 102) rfl rfl (by rw [h.size]; show 102 < 114; decide) e102, Fg.run_call rfl rfl (by simp only [List.map_toArray, List.map_cons, List.map_nil, Act.eval, e106, e110]) (Fg.run_enter Try.func11 (by kernel_rfl) (by kernel_rfl)), ?_⟩
                            exact (HO4.out w (gb_trans HG2.out h.base)).mono fun _ _ ⟨he, hg⟩ => ⟨_, he, hg, rfl⟩
                        refine ⟨?_, ?_⟩
                        · cases zP with
                          | false =>
                            refine Fg.sT rfl (by decide) (fun _ => rfl) fun ac w h => ?_
                            have e102 : ac.tmps.getD 102 undef = Value.bool false := h.dep 102 (by kernel_rfl)
                            exact not_wants (d := 102) rfl rfl (by rw [h.size]; show 102 < 114; decide) e102 (by decide)
                          | true =>
                            cases zQ with
                            | false =>
                              refine Fg.vT rfl (by decide) fun ac w h => ?_
                              have e102 : ac.tmps.getD 102 undef = Value.bool true := h.dep 102 (by kernel_rfl)
                              have e111 : ac.tmps.getD 111 undef = Value.bool false := h.dep 111 (by kernel_rfl)
                              refine ⟨Value.bool true, w, wants_some (d := 102) rfl rfl (by rw [h.size]; show 102 < 114; decide) e102, ?_, gb_refl _ _, rfl⟩
                              clear h
                              simp only [execOp, Act.eval, e111]
                              go_simp
                            | true =>
                              refine Fg.vT rfl (by decide) fun ac w h => ?_
                              have e102 : ac.tmps.getD 102 undef = Value.bool true := h.dep 102 (by kernel_rfl)
                              have e111 : ac.tmps.getD 111 undef = Value.bool true := h.dep 111 (by kernel_rfl)
                              refine ⟨Value.bool false, w, wants_some (d := 102) rfl rfl (by rw [h.size]; show 102 < 114; decide) e102, ?_, gb_refl _ _, rfl⟩
                              clear h
                              simp only [execOp, Act.eval, e111]
                              go_simp
                        refine ⟨?_, ?_⟩
                        · cases zP with
                          | false =>
                            refine Fg.vT rfl (by decide) fun ac w h => ?_
                            obtain rfl : zR = false := HZR.out
                            have e102 : ac.tmps.getD 102 undef = Value.bool false := h.dep 102 (by kernel_rfl)
                            refine ⟨Value.bool false, w, wants_none rfl, ?_, gb_refl _ _, rfl⟩
                            clear h
                            simp only [execOp, Act.eval, e102]
                            go_simp
                          | true =>
                            cases zQ with
                            | false =>
                              refine Fg.vT rfl (by decide) fun ac w h => ?_
                              obtain rfl : zR = true := HZR.out
                              have e102 : ac.tmps.getD 102 undef = Value.bool true := h.dep 102 (by kernel_rfl)
                              have e112 : ac.tmps.getD 112 undef = Value.bool true := h.dep 112 (by kernel_rfl)
                              refine ⟨Value.bool true, w, wants_none rfl, ?_, gb_refl _ _, rfl⟩
                              clear h
                              simp only [execOp, Act.eval, e102, e112]
                              go_simp
                            | true =>
                              refine Fg.vT rfl (by decide) fun ac w h => ?_
                              obtain rfl : zR = false := HZR.out
                              have e102 : ac.tmps.getD 102 undef = Value.bool true := h.dep 102 (by kernel_rfl)
                              have e112 : ac.tmps.getD 112 undef = Value.bool false := h.dep 112 (by kernel_rfl)
                              refine ⟨Value.bool false, w, wants_none rfl, ?_, gb_refl _ _, rfl⟩
                              clear h
                              simp only [execOp, Act.eval, e102, e112]
                              go_simp
                        trivial
                      · intro aq wq hB hsz hdf hrest hslots hpt
                        obtain ⟨u93, e93⟩ : ∃ u, aq.tmps.getD 93 undef = u := ⟨_, rfl⟩
                        obtain ⟨u94, e94⟩ : ∃ u, aq.tmps.getD 94 undef = u := ⟨_, rfl⟩
                        obtain ⟨u95, e95⟩ : ∃ u, aq.tmps.getD 95 undef = u := ⟨_, rfl⟩
                        obtain ⟨u96, e96⟩ : ∃ u, aq.tmps.getD 96 undef = u := ⟨_, rfl⟩
                        obtain ⟨u97, e97⟩ : ∃ u, aq.tmps.getD 97 undef = u := ⟨_, rfl⟩
                        obtain ⟨u98, e98⟩ : ∃ u, aq.tmps.getD 98 undef = u := ⟨_, rfl⟩
                        obtain ⟨u99, e99⟩ : ∃ u, aq.tmps.getD 99 undef = u := ⟨_, rfl⟩
                        obtain ⟨u100, e100⟩ : ∃ u, aq.tmps.getD 100 undef = u := ⟨_, rfl⟩
                        obtain ⟨u101, e101⟩ : ∃ u, aq.tmps.getD 101 undef = u := ⟨_, rfl⟩
                        obtain ⟨u102, e102⟩ : ∃ u, aq.tmps.getD 102 undef = u := ⟨_, rfl⟩
                        obtain ⟨u103, e103⟩ : ∃ u, aq.tmps.getD 103 undef = u := ⟨_, rfl⟩
                        obtain ⟨u104, e104⟩ : ∃ u, aq.tmps.getD 104 undef = u := ⟨_, rfl⟩
                        obtain ⟨u105, e105⟩ : ∃ u, aq.tmps.getD 105 undef = u := ⟨_, rfl⟩
                        obtain ⟨u106, e106⟩ : ∃ u, aq.tmps.getD 106 undef = u := ⟨_, rfl⟩
                        obtain ⟨u107, e107⟩ : ∃ u, aq.tmps.getD 107 undef = u := ⟨_, rfl⟩
                        obtain ⟨u108, e108⟩ : ∃ u, aq.tmps.getD 108 undef = u := ⟨_, rfl⟩
                        obtain ⟨u109, e109⟩ : ∃ u, aq.tmps.getD 109 undef = u := ⟨_, rfl⟩
                        obtain ⟨u110, e110⟩ : ∃ u, aq.tmps.getD 110 undef = u := ⟨_, rfl⟩
                        obtain ⟨u111, e111⟩ : ∃ u, aq.tmps.getD 111 undef = u := ⟨_, rfl⟩
                        obtain ⟨u112, e112⟩ : ∃ u, aq.tmps.getD 112 undef = u := ⟨_, rfl⟩
                        have e113 : aq.tmps.getD 113 undef = Value.bool zR := hslots 113 (by kernel_rfl)
                        obtain rfl := Fg.frame_is (a := aq) (vs := [Value.slice (some ⟨pb, po, none⟩) n c, undef, u2, Value.int .i64 i, Value.int .i64 j, Value.int .i64 c0, Value.int .i64 i, Value.slice (some ⟨pb, po, none⟩) n c, Value.int .i64 n, Value.bool true, u10, u11, Value.int .i64 j, Value.slice (some ⟨pb, po, none⟩) n c, Value.int .i64 n, Value.bool true, u16, u17, u18, u19, u20, u21, u22, u23, u24, u25, u26, u27, u28, u29, u30, u31, u32, u33, u34, u35, u36, u37, u38, u39, u40, u41, u42, u43, u44, u45, u46, u47, u48, u49, u50, u51, u52, u53, u54, u55, u56, u57, u58, u59, u60, u61, u62, u63, u64, u65, u66, u67, u68, u69, u70, u71, u72, u73, u74, Value.bool false, u76, u77, u78, u79, u80, u81, u82, u83, u84, u85, u86, u87, u88, u89, Value.bool true, u91, u92, u93, u94, u95, u96, u97, u98, u99, u100, u101, u102, u103, u104, u105, u106, u107, u108, u109, u110, u111, u112, Value.bool zR]) hsz ⟨hrest 0 (by kernel_rfl), hrest 1 (by kernel_rfl), hrest 2 (by kernel_rfl), hrest 3 (by kernel_rfl), hrest 4 (by kernel_rfl), hrest 5 (by kernel_rfl), hrest 6 (by kernel_rfl), hrest 7 (by kernel_rfl), hrest 8 (by kernel_rfl), hrest 9 (by kernel_rfl), hrest 10 (by kernel_rfl), hrest 11 (by kernel_rfl), hrest 12 (by kernel_rfl), hrest 13 (by kernel_rfl), hrest 14 (by kernel_rfl), hrest 15 (by kernel_rfl), hrest 16 (by kernel_rfl), hrest 17 (by kernel_rfl), hrest 18 (by kernel_rfl), hrest 19 (by kernel_rfl), hrest 20 (by kernel_rfl), hrest 21 (by kernel_rfl), hrest 22 (by kernel_rfl), hrest 23 (by kernel_rfl), hrest 24 (by kernel_rfl), hrest 25 (by kernel_rfl), hrest 26 (by kernel_rfl), hrest 27 (by kernel_rfl), hrest 28 (by kernel_rfl), hrest 29 (by kernel_rfl), hrest 30 (by kernel_rfl), hrest 31 (by kernel_rfl), hrest 32 (by kernel_rfl), hrest 33 (by kernel_rfl), hrest 34 (by kernel_rfl), hrest 35 (by kernel_rfl), hrest 36 (by kernel_rfl), hrest 37 (by kernel_rfl), hrest 38 (by kernel_rfl), hrest 39 (by kernel_rfl), hrest 40 (by kernel_rfl), hrest 41 (by kernel_rfl), hrest 42 (by kernel_rfl), hrest 43 (by kernel_rfl), hrest 44 (by kernel_rfl), hrest 45 (by kernel_rfl), hrest 46 (by kernel_rfl), hrest 47 (by kernel_rfl), hrest 48 (by kernel_rfl), hrest 49 (by kernel_rfl), hrest 50 (by kernel_rfl), hrest 51 (by kernel_rfl), hrest 52 (by kernel_rfl), hrest 53 (by kernel_rfl), hrest 54 (by kernel_rfl), hrest 55 (by kernel_rfl), hrest 56 (by kernel_rfl), hrest 57 (by kernel_rfl), hrest 58 (by kernel_rfl), hrest 59 (by kernel_rfl), hrest 60 (by kernel_rfl), hrest 61 (by kernel_rfl), hrest 62 (by kernel_rfl), hrest 63 (by kernel_rfl), hrest 64 (by kernel_rfl), hrest 65 (by kernel_rfl), hrest 66 (by kernel_rfl), hrest 67 (by kernel_rfl), hrest 68 (by kernel_rfl), hrest 69 (by kernel_rfl), hrest 70 (by kernel_rfl), hrest 71 (by kernel_rfl), hrest 72 (by kernel_rfl), hrest 73 (by kernel_rfl), hrest 74 (by kernel_rfl), hrest 75 (by kernel_rfl), hrest 76 (by kernel_rfl), hrest 77 (by kernel_rfl), hrest 78 (by kernel_rfl), hrest 79 (by kernel_rfl), hrest 80 (by kernel_rfl), hrest 81 (by kernel_rfl), hrest 82 (by kernel_rfl), hrest 83 (by kernel_rfl), hrest 84 (by kernel_rfl), hrest 85 (by kernel_rfl), hrest 86 (by kernel_rfl), hrest 87 (by kernel_rfl), hrest 88 (by kernel_rfl), hrest 89 (by kernel_rfl), hrest 90 (by kernel_rfl), hrest 91 (by kernel_rfl), hrest 92 (by kernel_rfl), e93, e94, e95, e96, e97, e98, e99, e100, e101, e102, e103, e104, e105, e106, e107, e108, e109, e110, e111, e112, e113, trivial⟩ hdf
                        clear hsz hdf hrest hslots hpt e93 e94 e95 e96 e97 e98 e99 e100 e101 e102 e103 e104 e105 e106 e107 e108 e109 e110 e111 e112 e113
                        have HGp := Lib.hid (gb_trans HG2.out hB)
                        clear hB HG2 HXY HXZ HZR HO3 HO4
                        refine wpList_nil ?_
                        cases zR with
                        | true =>
                          have HE := Lib.hid (HQ.out false _ (fun h => by cases h) HGp.out)
                          go_wp2
                          exact HE.out
                        | false =>
                          have HT := Lib.hid (HK2.out rfl)
                          clear HCL
                          go_wp2
                          exact ⟨⟨c0 + 1, by omega, rfl, HGp.out, fun _ => HT.out⟩, by show n - ((c0 : Int) + 1).toNat < n - (c0 : Int).toNat; omega⟩
                · obtain rfl : c0 = n := by omega
                  have HCL : Hid ((decide ((c0 : Int) < (c0 : Int)) = false) ∧ ¬ ((c0 : Int) < (c0 : Int))) := ⟨decide_eq_false (by omega), by omega⟩
                  have HT : Hid (∀ b, b < j + 1 → okB l i b) := HFIN.out (by simp) HK.out.2
                  clear hcl HK
                  go_wp2_with fail
                  rw [← hw2]
                  clear hw2
                  refine Fg.region_t [] [.any, .any, .any, .any, .any, .any, .any, .any, .any, .any, .any, .any, .any, .any, .any, .any, .any, .any, .any, .any, .any, .any, .any, .any, .any, .any, .any, .any, .any, .any, .any, .any, .any, .any, .any, .any, .any, .any, .any, .any, .any, .any, .any, .any, .any, .any, .any, .any, .any, .any, .any, .any, .any, .any, .any, .any, .any, .any, .any, .any, .any, .any, .any, .any, .any, .any, .any, .any, .any, .any, .any, .any, .any, .any, .any, .any, .val (Value.int .i64 c0), .val (Value.slice (some ⟨pb, po, none⟩) c0 c), .val (Value.int .i64 c0), .val (Value.bool false), .val (Value.bool false), .val undef, .val undef, .val undef, .val undef, .val undef, .val undef, .val undef, .val undef, .val undef, .val (Value.bool false)] w2 15 (gb_refl _ _) (by kernel_rfl) (by kernel_rfl) (by kernel_rfl) (by kernel_rfl) (by decide) (by kernel_rfl) ?_ ?_
                  · refine ⟨Fg.vT rfl (by decide) fun ac w h => ?_, ?_⟩
                    · have e5 : ac.tmps.getD 5 undef = Value.int .i64 c0 := h.rest 5 (by kernel_rfl)
                      exact ⟨_, w, wants_none rfl, Fg.run_move rfl e5, gb_refl _ _, rfl⟩
                    refine ⟨Fg.vT rfl (by decide) fun ac w h => ?_, ?_⟩
                    · have e0 : ac.tmps.getD 0 undef = Value.slice (some ⟨pb, po, none⟩) c0 c := h.rest 0 (by kernel_rfl)
                      exact ⟨_, w, wants_none rfl, Fg.run_move rfl e0, gb_refl _ _, rfl⟩
                    refine ⟨Fg.vT rfl (by decide) fun ac w h => ?_, ?_⟩
                    · have e77 : ac.tmps.getD 77 undef = Value.slice (some ⟨pb, po, none⟩) c0 c := h.dep 77 (by kernel_rfl)
                      have x77 : ac.tmps[77]?.getD undef = Value.slice (some ⟨pb, po, none⟩) c0 c := by simpa using e77
                      refine ⟨.int .i64 c0, w, wants_none rfl, ?_, gb_refl _ _, rfl⟩
                      clear h e77
                      go_simp
                    refine ⟨Fg.vT rfl (by decide) fun ac w h => ?_, ?_⟩
                    · have e76 : ac.tmps.getD 76 undef = Value.int .i64 c0 := h.dep 76 (by kernel_rfl)
                      have e78 : ac.tmps.getD 78 undef = Value.int .i64 c0 := h.dep 78 (by kernel_rfl)
                      have i1 := HCL.out.1
                      have i2 := HCL.out.2
                      refine ⟨.bool false, w, wants_none rfl, ?_, gb_refl _ _, rfl⟩
                      clear h
                      simp only [execOp, Act.eval, e76, e78]
                      go_simp
                    refine ⟨Fg.vT rfl (by decide) fun ac w h => ?_, ?_⟩
                    · have e79 : ac.tmps.getD 79 undef = Value.bool false := h.dep 79 (by kernel_rfl)
                      exact ⟨_, w, wants_none rfl, Fg.run_move rfl e79, gb_refl _ _, rfl⟩
                    refine ⟨Fg.sT rfl (by decide) (fun _ => rfl) fun ac w h => ?_, ?_⟩
                    · have e80 : ac.tmps.getD 80 undef = Value.bool false := h.dep 80 (by kernel_rfl)
                      exact not_wants (d := 80) rfl rfl (by rw [h.size]; show 80 < 114; decide) e80 (by decide)
                    refine ⟨Fg.sT rfl (by decide) (fun _ => rfl) fun ac w h => ?_, ?_⟩
                    · have e80 : ac.tmps.getD 80 undef = Value.bool false := h.dep 80 (by kernel_rfl)
                      exact not_wants (d := 80) rfl rfl (by rw [h.size]; show 80 < 114; decide) e80 (by decide)
                    refine ⟨Fg.sT rfl (by decide) (fun _ => rfl) fun ac w h => ?_, ?_⟩
                    · have e80 : ac.tmps.getD 80 undef = Value.bool false := h.dep 80 (by kernel_rfl)
                      exact not_wants (d := 80) rfl rfl (by rw [h.size]; show 80 < 114; decide) e80 (by decide)
                    refine ⟨Fg.sT rfl (by decide) (fun _ => rfl) fun ac w h => ?_, ?_⟩
                    · have e80 : ac.tmps.getD 80 undef = Value.bool false := h.dep 80 (by kernel_rfl)
                      exact not_wants (d := 80) rfl rfl (by rw [h.size]; show 80 < 114; decide) e80 (by decide)
                    refine ⟨Fg.sT rfl (by decide) (fun _ => rfl) fun ac w h => ?_, ?_⟩
                    · have e80 : ac.tmps.getD 80 undef = Value.bool false := h.dep 80 (by kernel_rfl)
                      exact not_wants (d := 80) rfl rfl (by rw [h.size]; show 80 < 114; decide) e80 (by decide)
                    refine ⟨Fg.sT rfl (by decide) (fun _ => rfl) fun ac w h => ?_, ?_⟩
                    · have e80 : ac.tmps.getD 80 undef = Value.bool false := h.dep 80 (by kernel_rfl)
                      exact not_wants (d := 80) rfl rfl (by rw [h.size]; show 80 < 114; decide) e80 (by decide)
                    refine ⟨Fg.sT rfl (by decide) (fun _ => rfl) fun ac w h => ?_, ?_⟩
                    · have e80 : ac.tmps.getD 80 undef = Value.bool false := h.dep 80 (by kernel_rfl)
                      exact not_wants (d := 80) rfl rfl (by rw [h.size]; show 80 < 114; decide) e80 (by decide)
                    refine ⟨Fg.sT rfl (by decide) (fun _ => rfl) fun ac w h => ?_, ?_⟩
                    · have e80 : ac.tmps.getD 80 undef = Value.bool false := h.dep 80 (by kernel_rfl)
                      exact not_wants (d := 80) rfl rfl (by rw [h.size]; show 80 < 114; decide) e80 (by decide)
                    refine ⟨Fg.sT rfl (by decide) (fun _ => rfl) fun ac w h => ?_, ?_⟩
                    · have e80 : ac.tmps.getD 80 undef = Value.bool false := h.dep 80 (by kernel_rfl)
                      exact not_wants (d := 80) rfl rfl (by rw [h.size]; show 80 < 114; decide) e80 (by decide)
                    refine ⟨Fg.vT rfl (by decide) fun ac w h => ?_, ?_⟩
                    · have e80 : ac.tmps.getD 80 undef = Value.bool false := h.dep 80 (by kernel_rfl)
                      refine ⟨Value.bool false, w, wants_none rfl, ?_, gb_refl _ _, rfl⟩
                      clear h
                      simp only [execOp, Act.eval, e80]
                      go_simp
                    trivial
                  · intro aq wq hB hsz hdf hrest hslots hpt
                    obtain ⟨u76, e76⟩ : ∃ u, aq.tmps.getD 76 undef = u := ⟨_, rfl⟩
                    obtain ⟨u77, e77⟩ : ∃ u, aq.tmps.getD 77 undef = u := ⟨_, rfl⟩
                    obtain ⟨u78, e78⟩ : ∃ u, aq.tmps.getD 78 undef = u := ⟨_, rfl⟩
                    obtain ⟨u79, e79⟩ : ∃ u, aq.tmps.getD 79 undef = u := ⟨_, rfl⟩
                    obtain ⟨u80, e80⟩ : ∃ u, aq.tmps.getD 80 undef = u := ⟨_, rfl⟩
                    obtain ⟨u81, e81⟩ : ∃ u, aq.tmps.getD 81 undef = u := ⟨_, rfl⟩
                    obtain ⟨u82, e82⟩ : ∃ u, aq.tmps.getD 82 undef = u := ⟨_, rfl⟩
                    obtain ⟨u83, e83⟩ : ∃ u, aq.tmps.getD 83 undef = u := ⟨_, rfl⟩
                    obtain ⟨u84, e84⟩ : ∃ u, aq.tmps.getD 84 undef = u := ⟨_, rfl⟩
                    obtain ⟨u85, e85⟩ : ∃ u, aq.tmps.getD 85 undef = u := ⟨_, rfl⟩
                    obtain ⟨u86, e86⟩ : ∃ u, aq.tmps.getD 86 undef = u := ⟨_, rfl⟩
                    obtain ⟨u87, e87⟩ : ∃ u, aq.tmps.getD 87 undef = u := ⟨_, rfl⟩
                    obtain ⟨u88, e88⟩ : ∃ u, aq.tmps.getD 88 undef = u := ⟨_, rfl⟩
                    obtain ⟨u89, e89⟩ : ∃ u, aq.tmps.getD 89 undef = u := ⟨_, rfl⟩
                    have e90 : aq.tmps.getD 90 undef = Value.bool false := hslots 90 (by kernel_rfl)
                    obtain rfl := Fg.frame_is (a := aq) (vs := [Value.slice (some ⟨pb, po, none⟩) c0 c, undef, u2, Value.int .i64 i, Value.int .i64 j, Value.int .i64 c0, Value.int .i64 i, Value.slice (some ⟨pb, po, none⟩) c0 c, Value.int .i64 c0, Value.bool true, u10, u11, Value.int .i64 j, Value.slice (some ⟨pb, po, none⟩) c0 c, Value.int .i64 c0, Value.bool true, u16, u17, u18, u19, u20, u21, u22, u23, u24, u25, u26, u27, u28, u29, u30, u31, u32, u33, u34, u35, u36, u37, u38, u39, u40, u41, u42, u43, u44, u45, u46, u47, u48, u49, u50, u51, u52, u53, u54, u55, u56, u57, u58, u59, u60, u61, u62, u63, u64, u65, u66, u67, u68, u69, u70, u71, u72, u73, u74, Value.bool false, u76, u77, u78, u79, u80, u81, u82, u83, u84, u85, u86, u87, u88, u89, Value.bool false, u91, u92, u93, u94, u95, u96, u97, u98, u99, u100, u101, u102, u103, u104, u105, u106, u107, u108, u109, u110, u111, u112, u113]) hsz ⟨hrest 0 (by kernel_rfl), hrest 1 (by kernel_rfl), hrest 2 (by kernel_rfl), hrest 3 (by kernel_rfl), hrest 4 (by kernel_rfl), hrest 5 (by kernel_rfl), hrest 6 (by kernel_rfl), hrest 7 (by kernel_rfl), hrest 8 (by kernel_rfl), hrest 9 (by kernel_rfl), hrest 10 (by kernel_rfl), hrest 11 (by kernel_rfl), hrest 12 (by kernel_rfl), hrest 13 (by kernel_rfl), hrest 14 (by kernel_rfl), hrest 15 (by kernel_rfl), hrest 16 (by kernel_rfl), hrest 17 (by kernel_rfl), hrest 18 (by kernel_rfl), hrest 19 (by kernel_rfl), hrest 20 (by kernel_rfl), hrest 21 (by kernel_rfl), hrest 22 (by kernel_rfl), hrest 23 (by kernel_rfl), hrest 24 (by kernel_rfl), hrest 25 (by kernel_rfl), hrest 26 (by kernel_rfl), hrest 27 (by kernel_rfl), hrest 28 (by kernel_rfl), hrest 29 (by kernel_rfl), hrest 30 (by kernel_rfl), hrest 31 (by kernel_rfl), hrest 32 (by kernel_rfl), hrest 33 (by kernel_rfl), hrest 34 (by kernel_rfl), hrest 35 (by kernel_rfl), hrest 36 (by kernel_rfl), hrest 37 (by kernel_rfl), hrest 38 (by kernel_rfl), hrest 39 (by kernel_rfl), hrest 40 (by kernel_rfl), hrest 41 (by kernel_rfl), hrest 42 (by kernel_rfl), hrest 43 (by kernel_rfl), hrest 44 (by kernel_rfl), hrest 45 (by kernel_rfl), hrest 46 (by kernel_rfl), hrest 47 (by kernel_rfl), hrest 48 (by kernel_rfl), hrest 49 (by kernel_rfl), hrest 50 (by kernel_rfl), hrest 51 (by kernel_rfl), hrest 52 (by kernel_rfl), hrest 53 (by kernel_rfl), hrest 54 (by kernel_rfl), hrest 55 (by kernel_rfl), hrest 56 (by kernel_rfl), hrest 57 (by kernel_rfl), hrest 58 (by kernel_rfl), hrest 59 (by kernel_rfl), hrest 60 (by kernel_rfl), hrest 61 (by kernel_rfl), hrest 62 (by kernel_rfl), hrest 63 (by kernel_rfl), hrest 64 (by kernel_rfl), hrest 65 (by kernel_rfl), hrest 66 (by kernel_rfl), hrest 67 (by kernel_rfl), hrest 68 (by kernel_rfl), hrest 69 (by kernel_rfl), hrest 70 (by kernel_rfl), hrest 71 (by kernel_rfl), hrest 72 (by kernel_rfl), hrest 73 (by kernel_rfl), hrest 74 (by kernel_rfl), hrest 75 (by kernel_rfl), e76, e77, e78, e79, e80, e81, e82, e83, e84, e85, e86, e87, e88, e89, e90, hrest 91 (by kernel_rfl), hrest 92 (by kernel_rfl), hrest 93 (by kernel_rfl), hrest 94 (by kernel_rfl), hrest 95 (by kernel_rfl), hrest 96 (by kernel_rfl), hrest 97 (by kernel_rfl), hrest 98 (by kernel_rfl), hrest 99 (by kernel_rfl), hrest 100 (by kernel_rfl), hrest 101 (by kernel_rfl), hrest 102 (by kernel_rfl), hrest 103 (by kernel_rfl), hrest 104 (by kernel_rfl), hrest 105 (by kernel_rfl), hrest 106 (by kernel_rfl), hrest 107 (by kernel_rfl), hrest 108 (by kernel_rfl), hrest 109 (by kernel_rfl), hrest 110 (by kernel_rfl), hrest 111 (by kernel_rfl), hrest 112 (by kernel_rfl), hrest 113 (by kernel_rfl), trivial⟩ hdf
                    clear hsz hdf hrest hslots hpt e76 e77 e78 e79 e80 e81 e82 e83 e84 e85 e86 e87 e88 e89 e90
                    have HGp := Lib.hid (gb_trans HG2.out hB)
                    clear hB HG2 HXY
                    refine wpList_nil ?_
                    go_wp2
                    exact ⟨⟨j + 1, by omega, rfl, HGp.out, HT.out⟩, by show c0 - ((j : Int) + 1).toNat < c0 - (j : Int).toNat; omega⟩
        · obtain rfl : j = n := by omega
          clear hjl
          have HT : Hid (∀ a, a < i + 1 → ∀ b, b < j → okB l a b) := by
            intro a ha
            rcases (by omega : a < i ∨ a = i) with ha | rfl
            · exact HI.out.2 a ha
            · exact HJ.out.2
          go_wp2
          exact ⟨⟨i + 1, by omega, rfl, HJ.out.1, HT.out⟩, by show j - ((i : Int) + 1).toNat < j - (i : Int).toNat; omega⟩
    · obtain rfl : i = n := by omega
      have HE := Lib.hid (HQ.out true _ (fun _ => tame_of (by rw [HN.out.1]; exact HI.out.2)) HI.out.1)
      clear hil
      go_wp2
      exact HE.out
end Sb
end Go.Proofs.Ytlkiancedgaicaa
