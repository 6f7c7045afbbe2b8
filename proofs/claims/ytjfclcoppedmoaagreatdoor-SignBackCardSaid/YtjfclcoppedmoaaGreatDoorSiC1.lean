/- texts merged -/
import Derived.Orders
import Derived.WalkKit
import Derived.Lib.Hide
import Derived.WalkSmall
import Derived.Laws.Rows
import Derived.Laws.Tables
import Derived.Test.YtjfclcoppedmoaaGreatDoorProg
import Derived.Laws.AppendOwn
import Derived.Laws.OwnMore
import Derived.Deep.MidRow
import Derived.Shelf.Bits.Mul64
import Derived.Shelf.Spec.BitsCarry
import Derived.WalkSpells
import Derived.WalkLawsBesides
import Derived.BigQuiet
import Derived.Deep.QuietTactic
import Derived.Deep.RegionHeld3
import Derived.StillTailTactics
import Derived.Outline
namespace Go.Proofs.YtjfclcoppedmoaaGreatDoor
section
open Go
section
variable {P : Program} {ops : Array Oper} {Q : Exit → Act → World → Prop} {G : Nat → Value → World → Prop} {M : Nat → World → Prop} {B : World → Prop} {Rel : World → World → Prop} {a0 : Act}
def notDst (ops : Array Oper) (d : Nat) : Bool := ops.all fun o => o.dst != some d
def isDst (ops : Array Oper) (d : Nat) : Bool := ops.any fun o => o.dst == some d
def waits (ops : Array Oper) (o : Oper) (d : Nat) : Bool := o.after.any fun e => Region.binds .any e && ((ops[e.on]?).bind (·.dst)) == some d
def waitsFor (o : Oper) (j : Nat) : Bool := o.after.any fun e => Region.binds .any e && e.on == j
structure Flow (G : Nat → Value → World → Prop) (M : Nat → World → Prop) (B : World → Prop) (a0 : Act) (ops : Array Oper) (listed : Array Bool) (a : Act) (w : World) : Prop where
 base : B w
 size : a.tmps.size = a0.tmps.size
 defers : a.defers = a0.defers
 rest : ∀ d, notDst ops d = true → a.tmps.getD d undef = a0.tmps.getD d undef
 slots : ∀ j oj d, ops[j]? = some oj → listed.getD j false = true → oj.dst = some d → G d (a.tmps.getD d undef) w
 mems : ∀ j oj, ops[j]? = some oj → listed.getD j false = true → oj.dst = none → M j w
structure FlowAt (G : Nat → Value → World → Prop) (M : Nat → World → Prop) (B : World → Prop) (a0 : Act) (ops : Array Oper) (o : Oper) (a : Act) (w : World) : Prop where
 base : B w
 size : a.tmps.size = a0.tmps.size
 defers : a.defers = a0.defers
 rest : ∀ d, notDst ops d = true → a.tmps.getD d undef = a0.tmps.getD d undef
 dep : ∀ d, waits ops o d = true → G d (a.tmps.getD d undef) w
 mem : ∀ j oj, ops[j]? = some oj → waitsFor o j = true → oj.dst = none → M j w
def FlowPost (G : Nat → Value → World → Prop) (M : Nat → World → Prop) (B : World → Prop) (Rel : World → World → Prop) (i : Nat) (o : Oper) (w : World) (v : Value) (w' : World) : Prop :=
 B w' ∧ Rel w w' ∧ match o.dst with | some d => G d v w' | none => M i w'
def FlowStep (P : Program) (Q : Exit → Act → World → Prop) (G : Nat → Value → World → Prop) (M : Nat → World → Prop) (B : World → Prop) (Rel : World → World → Prop) (a0 : Act) (ops : Array Oper) (i : Nat) (o : Oper) : Prop :=
 ∀ a w, FlowAt G M B a0 ops o a w → ops[i]? = some o → wpOp P ops Q i (fun a' w' => ∃ v, a' = a.put o.dst v ∧ FlowPost G M B Rel i o w v w') a w
def FlowSteps (P : Program) (Q : Exit → Act → World → Prop) (G : Nat → Value → World → Prop) (M : Nat → World → Prop) (B : World → Prop) (Rel : World → World → Prop) (a0 : Act) (ops : Array Oper) : Nat → List Oper → Prop
 | _, [] => True
 | i, o :: r => FlowStep P Q G M B Rel a0 ops i o ∧ FlowSteps P Q G M B Rel a0 ops (i + 1) r
theorem flowSteps_get : ∀ (l : List Oper) (i k : Nat) (o : Oper), FlowSteps P Q G M B Rel a0 ops i l → l[k]? = some o → FlowStep P Q G M B Rel a0 ops (i + k) o := by
 intro l
 induction l with
 | nil => intro i k o _ h; simp at h
 | cons x r ih =>
  intro i k o h hk
  cases k with
  | zero => simp at hk; subst hk; exact h.1
  | succ k => have := ih (i + 1) k o h.2 (by simpa using hk); rwa [show i + (k + 1) = i + 1 + k by omega]
def topo (ops : Array Oper) : Bool := (List.range ops.size).all fun i => ((ops[i]?).map fun o => o.after.all fun e => !Region.binds .any e || decide (e.on < i)).getD true
def onceL : List (Option Tmp) → Bool
 | [] => true
 | none :: r => onceL r
 | some d :: r => r.all (· != some d) && onceL r
def once (ops : Array Oper) (n : Nat) : Bool := onceL (ops.toList.map (·.dst)) && ops.all fun o => match o.dst with | some d => decide (d < n) | none => true
theorem onceL_ne : ∀ (l : List (Option Tmp)), onceL l = true → ∀ (i j : Nat) (d d' : Tmp), l[i]? = some (some d) → l[j]? = some (some d') → i ≠ j → d ≠ d' := by
 intro l
 induction l with
 | nil => intro _ i j d d' h; simp at h
 | cons x r ih =>
  intro h i j d d' hi hj hne
  have hr : onceL r = true := by cases x with | none => exact h | some y => simp [onceL] at h; exact h.2
  cases i with
  | zero =>
   cases j with
   | zero => exact absurd rfl hne
   | succ j =>
    simp at hi hj
    subst hi
    simp [onceL] at h
    intro e
    subst e
    exact h.1 _ (List.mem_of_getElem? hj) rfl
  | succ i =>
   cases j with
   | zero =>
    simp at hi hj
    subst hj
    simp [onceL] at h
    intro e
    subst e
    exact h.1 _ (List.mem_of_getElem? hi) rfl
   | succ j => exact ih hr i j d d' (by simpa using hi) (by simpa using hj) (fun e => hne (by rw [e]))
theorem once_ne {n : Nat} (h : once ops n = true) {i j : Nat} {oi oj : Oper} (hi : ops[i]? = some oi) (hj : ops[j]? = some oj) (hne : i ≠ j) {d : Nat} (hd : oi.dst = some d) : oj.dst ≠ some d := by
 intro e
 have h1 : onceL (ops.toList.map (·.dst)) = true := by simp only [once, Bool.and_eq_true] at h; exact h.1
 refine onceL_ne _ h1 i j d d ?_ ?_ hne rfl
 ·rw [List.getElem?_map, Array.getElem?_toList, hi]; simp [hd]
 ·rw [List.getElem?_map, Array.getElem?_toList, hj]; simp [e]
theorem once_lt {n : Nat} (h : once ops n = true) {i : Nat} {oi : Oper} (hi : ops[i]? = some oi) {d : Nat} (hd : oi.dst = some d) : d < n := by
 simp only [once, Bool.and_eq_true] at h
 have := (Array.all_eq_true_iff_forall_mem.1 h.2) oi (Array.mem_of_getElem? hi)
 simpa [hd] using this
theorem filter_le {α : Type} (p q : α → Bool) (l : List α) (h : ∀ x, q x = true → p x = true) : (l.filter q).length ≤ (l.filter p).length := by
 induction l with
 | nil => simp
 | cons x r ih =>
  by_cases hq : q x = true
  ·simp [hq, h x hq, ih]
  ·by_cases hp : p x = true
   ·simp [hq, hp]; omega
   ·simp [hq, hp, ih]
theorem filter_lt {α : Type} (p q : α → Bool) (l : List α) (h : ∀ x, q x = true → p x = true) (x : α) (hx : x ∈ l) (hp : p x = true) (hq : q x = false) : (l.filter q).length < (l.filter p).length := by
 induction l with
 | nil => cases hx
 | cons y r ih =>
  have hle := filter_le p q r h
  rcases List.mem_cons.1 hx with e | e
  ·subst e; simp [hp, hq]; omega
  ·have := ih e
   by_cases hqy : q y = true
   ·simp [hqy, h y hqy, this]
   ·by_cases hpy : p y = true
    ·simp [hqy, hpy]; omega
    ·simp [hqy, hpy, this]
def unlisted (ops : Array Oper) (listed : Array Bool) : Nat := ((List.range ops.size).filter fun i => !listed.getD i true).length
theorem unlisted_lt {listed : Array Bool} {i : Nat} (h : i ∈ Region.ready .any ops listed) : unlisted ops (listed.setIfInBounds i true) < unlisted ops listed := by
 obtain ⟨h0, o, ho, _⟩ := mem_ready.1 h
 have hi : i < ops.size := by
  rcases Nat.lt_or_ge i ops.size with h' | h'
  ·exact h'
  ·rw [Array.getElem?_eq_none h'] at ho; cases ho
 have hset : (listed.setIfInBounds i true).getD i true = true := by
  rcases Nat.lt_or_ge i listed.size with h' | h'
  ·simp [h']
  ·simp [Array.getElem?_eq_none (show (listed.setIfInBounds i true).size ≤ i by simpa using h')]
 refine filter_lt _ _ _ (fun x hx => ?_) i (List.mem_range.2 hi) (by rw [h0]; rfl) (by rw [hset]; rfl)
 by_cases e : i = x
 ·subst e; rw [hset] at hx; cases hx
 ·rwa [getD_set_ne true e] at hx
theorem all_listed (ht : topo ops = true) {listed : Array Bool} (hs : listed.size = ops.size) (hr : Region.ready .any ops listed = []) : ∀ i, i < ops.size → listed.getD i false = true := by
 intro i
 induction i using Nat.strongRecOn with
 | _ i ih =>
  intro hi
  by_cases hl : listed.getD i false = true
  ·exact hl
  have hi' : i < listed.size := by omega
  have hf : listed.getD i true = false := by
   simp [hi'] at hl ⊢; exact hl
  have : i ∈ Region.ready .any ops listed := mem_ready.2 ⟨hf, ops[i], Array.getElem?_eq_getElem hi, fun e he hb => by
   have h1 := (List.all_eq_true.1 ht) i (List.mem_range.2 hi)
   rw [Array.getElem?_eq_getElem hi] at h1
   have h2 : (ops[i].after.all fun e => !Region.binds .any e || decide (e.on < i)) = true := h1
   have h3 : e.on < i := by
    have := (Array.all_eq_true_iff_forall_mem.1 h2) e he
    simpa [hb] using this
   exact ih e.on h3 (by omega)⟩
  rw [hr] at this
  cases this
theorem flow_any (ht : topo ops = true) (ho : once ops a0.tmps.size = true) (stab : ∀ d u w w', Rel w w' → G d u w → G d u w') (stabM : ∀ j w w', Rel w w' → M j w → M j w')
  (steps : FlowSteps P Q G M B Rel a0 ops 0 ops.toList)
  (fin : ∀ a w, B w → a.tmps.size = a0.tmps.size → a.defers = a0.defers → (∀ d, notDst ops d = true → a.tmps.getD d undef = a0.tmps.getD d undef) → (∀ d, isDst ops d = true → G d (a.tmps.getD d undef) w) →
   (∀ j oj, ops[j]? = some oj → oj.dst = none → M j w) → Q .normal a w) :
  ∀ (fuel : Nat) (listed : Array Bool) (a : Act) (w : World), listed.size = ops.size → unlisted ops listed ≤ fuel → Flow G M B a0 ops listed a w → wpAny P .any ops Q fuel listed a w := by
 have inn : ∀ {j : Nat} {oj : Oper}, ops[j]? = some oj → j < ops.size := by
  intro j oj hj
  rcases Nat.lt_or_ge j ops.size with h' | h'
  ·exact h'
  ·rw [Array.getElem?_eq_none h'] at hj; cases hj
 have go : ∀ (listed : Array Bool) (a : Act) (w : World), listed.size = ops.size → Flow G M B a0 ops listed a w → Region.ready .any ops listed = [] → Q .normal a w := by
  intro listed a w hs hF hr
  have hall := all_listed ht hs hr
  refine fin a w hF.base hF.size hF.defers hF.rest (fun d hd => ?_) (fun j oj hj hn => hF.mems j oj hj (hall j (inn hj)) hn)
  obtain ⟨k, hk, hb⟩ := Array.any_eq_true.1 hd
  exact hF.slots k ops[k] d (Array.getElem?_eq_getElem hk) (hall k hk) (by simpa using hb)
 intro fuel
 induction fuel with
 | zero =>
  intro listed a w hs hu hF
  have hr : Region.ready .any ops listed = [] := by
   cases hc : Region.ready .any ops listed with
   | nil => rfl
   | cons x r =>
    have := unlisted_lt (ops := ops) (listed := listed) (i := x) (by rw [hc]; exact List.mem_cons_self ..)
    omega
  exact ⟨hr, go listed a w hs hF hr⟩
 | succ fuel ih =>
  intro listed a w hs hu hF
  refine ⟨go listed a w hs hF, fun i hi => ?_⟩
  obtain ⟨h0, o, hoi, hall⟩ := mem_ready.1 hi
  have hst := flowSteps_get ops.toList 0 i o steps (by rw [Array.getElem?_toList]; exact hoi)
  rw [Nat.zero_add] at hst
  have hat : FlowAt G M B a0 ops o a w := ⟨hF.base, hF.size, hF.defers, hF.rest, fun d hd => by
    obtain ⟨k, hk, hb⟩ := Array.any_eq_true.1 hd
    simp only [Bool.and_eq_true, beq_iff_eq] at hb
    have hl := hall _ (Array.getElem_mem hk) hb.1
    cases hx : ops[o.after[k].on]? with
    | none => rw [hx] at hb; cases hb.2
    | some oj => rw [hx] at hb; exact hF.slots _ oj d hx hl hb.2,
   fun j oj hj ha hn => by
    obtain ⟨k, hk, hb⟩ := Array.any_eq_true.1 ha
    simp only [Bool.and_eq_true, beq_iff_eq] at hb
    have hl := hall _ (Array.getElem_mem hk) hb.1
    rw [hb.2] at hl
    exact hF.mems j oj hj hl hn⟩
  refine wpOp_mono (fun a' w' h => ?_) (hst a w hat hoi)
  obtain ⟨v, rfl, hB, hR, hG⟩ := h
  have hlt := unlisted_lt hi
  refine ih _ _ _ (by simpa using hs) (by omega) ⟨hB, ?_, ?_, ?_, ?_, ?_⟩
  ·rw [← hF.size]; cases o.dst <;> simp [Act.put]
  ·rw [← hF.defers]; cases o.dst <;> simp [Act.put]
  ·intro d hd
   rw [← hF.rest d hd]
   have hne : o.dst ≠ some d := by
    have := (Array.all_eq_true_iff_forall_mem.1 hd) o (Array.mem_of_getElem? hoi)
    simpa using this
   cases hod : o.dst with
   | none => rfl
   | some d' => rw [hod] at hne; simp [Act.put, Array.getElem?_setIfInBounds_ne (show d' ≠ d from fun e => hne (by rw [e]))]
  ·intro j oj d hj hl hd
   by_cases e : i = j
   ·subst e
    rw [hoi] at hj
    cases hj
    have hd2 := once_lt ho hoi hd
    rw [← hF.size] at hd2
    rw [hd] at hG ⊢
    simpa [Act.put, hd2] using hG
   ·rw [getD_set_ne false e] at hl
    have h1 := hF.slots j oj d hj hl hd
    have hv : (a.put o.dst v).tmps.getD d undef = a.tmps.getD d undef := by
     cases hod : o.dst with
     | none => rfl
     | some d' =>
      have := once_ne ho hoi hj e hod
      rw [hd] at this
      simp [Act.put, Array.getElem?_setIfInBounds_ne (show d' ≠ d from fun e => this (by rw [e]))]
    rw [hv]
    exact stab d _ w w' hR h1
  ·intro j oj hj hl hn
   by_cases e : i = j
   ·subst e
    rw [hoi] at hj
    cases hj
    rw [hn] at hG
    exact hG
   ·rw [getD_set_ne false e] at hl
    exact stabM j w w' hR (hF.mems j oj hj hl hn)
theorem wp_region_flow {id : Nat} {w : World} (G : Nat → Value → World → Prop) (M : Nat → World → Prop) (B : World → Prop) (Rel : World → World → Prop) (hm : P.follows .mixedOrders = true) (ht : topo ops = true) (ho : once ops a0.tmps.size = true) (hB : B w.drew)
  (stab : ∀ d u w w', Rel w w' → G d u w → G d u w') (stabM : ∀ j w w', Rel w w' → M j w → M j w') (steps : FlowSteps P Q G M B Rel a0 ops 0 ops.toList)
  (fin : ∀ a w, B w → a.tmps.size = a0.tmps.size → a.defers = a0.defers → (∀ d, notDst ops d = true → a.tmps.getD d undef = a0.tmps.getD d undef) → (∀ d, isDst ops d = true → G d (a.tmps.getD d undef) w) →
   (∀ j oj, ops[j]? = some oj → oj.dst = none → M j w) → Q .normal a w) : (Code.region id ops true).wp P Q a0 w :=
 wp_region_any hm (flow_any ht ho stab stabM steps fin ops.size _ a0 _ (by simp) (by unfold unlisted; exact Nat.le_trans (List.length_filter_le _ _) (by simp))
  ⟨hB, rfl, rfl, fun _ _ => rfl, fun j oj d _ hl _ => by
   by_cases h : j < ops.size <;> simp [h] at hl, fun j oj _ hl _ => by
   by_cases h : j < ops.size <;> simp [h] at hl⟩)
theorem wanted_none {o : Oper} (h : o.guard = none) (f : Nat → Option Bool) : Region.wanted o f = true := by simp [Region.wanted, h]
theorem flow_value {i : Nat} {o : Oper} {d : Nat} (hd : o.dst = some d) (hg : o.guard = none) (h : ∀ a w, FlowAt G M B a0 ops o a w → ∃ v w', (execOp a.eval o).run P w = .ok (.value v) w' ∧ B w' ∧ Rel w w' ∧ G d v w') : FlowStep P Q G M B Rel a0 ops i o := by
 intro a w hF hi
 obtain ⟨v, w', hr, hB, hR, hG⟩ := h a w hF
 unfold wpOp
 simp only [hi, wanted_none hg, if_true]
 refine Or.inl ?_
 unfold Oper.wp
 rw [hr]
 exact ⟨v, rfl, hB, hR, by rw [hd]; exact hG⟩
theorem flow_skip {i : Nat} {o : Oper} (hd : o.dst = none) (hg : o.guard = none) (h : ∀ a w, FlowAt G M B a0 ops o a w → ∃ w', (execOp a.eval o).run P w = .ok .skip w' ∧ B w' ∧ Rel w w' ∧ M i w') : FlowStep P Q G M B Rel a0 ops i o := by
 intro a w hF hi
 obtain ⟨w', hr, hB, hR, hG⟩ := h a w hF
 unfold wpOp
 simp only [hi, wanted_none hg, if_true]
 refine Or.inl ?_
 unfold Oper.wp
 rw [hr]
 exact ⟨undef, rfl, hB, hR, by rw [hd]; exact hG⟩
theorem flow_call {i : Nat} {o : Oper} {d : Nat} (hd : o.dst = some d) (hg : o.guard = none)
  (h : ∀ a w, FlowAt G M B a0 ops o a w → ∃ f args, (execOp a.eval o).run P w = .ok (.enter f args) w ∧ Calls P f args w fun e w' => ∃ v, e = .returned v ∧ B w' ∧ Rel w w' ∧ G d v w') : FlowStep P Q G M B Rel a0 ops i o := by
 intro a w hF hi
 obtain ⟨f, args, hr, hc⟩ := h a w hF
 unfold wpOp
 simp only [hi, wanted_none hg, if_true]
 refine Or.inl ?_
 unfold Oper.wp
 rw [hr]
 refine Calls.mono hc fun e w' he => ?_
 obtain ⟨v, rfl, hB, hR, hG⟩ := he
 exact ⟨v, rfl, hB, hR, by rw [hd]; exact hG⟩
end
end
section
open Go
section
variable {P : Program} {ops : Array Oper} {Q : Exit → Act → World → Prop} {G : Nat → Value → World → Prop} {st : Nat → Nat} {M : Nat → Value → World → Prop} {B : World → Prop} {Rel : World → World → Prop} {a0 : Act}
structure Flow2 (G : Nat → Value → World → Prop) (st : Nat → Nat) (M : Nat → Value → World → Prop) (B : World → Prop) (a0 : Act) (ops : Array Oper) (listed : Array Bool) (a : Act) (w : World) : Prop where
 base : B w
 size : a.tmps.size = a0.tmps.size
 defers : a.defers = a0.defers
 rest : ∀ d, notDst ops d = true → a.tmps.getD d undef = a0.tmps.getD d undef
 slots : ∀ j oj d, ops[j]? = some oj → listed.getD j false = true → oj.dst = some d → G d (a.tmps.getD d undef) w
 mems : ∀ j oj, ops[j]? = some oj → listed.getD j false = true → oj.dst = none → M j (a.tmps.getD (st j) undef) w
 closed : ∀ j oj, ops[j]? = some oj → listed.getD j false = true → ∀ e ∈ oj.after, Region.binds .any e = true → listed.getD e.on false = true
structure FlowAt2 (G : Nat → Value → World → Prop) (st : Nat → Nat) (M : Nat → Value → World → Prop) (B : World → Prop) (a0 : Act) (ops : Array Oper) (o : Oper) (a : Act) (w : World) : Prop where
 base : B w
 rest : ∀ d, notDst ops d = true → a.tmps.getD d undef = a0.tmps.getD d undef
 dep : ∀ d, waits ops o d = true → G d (a.tmps.getD d undef) w
 mem : ∀ j oj, ops[j]? = some oj → waitsFor o j = true → oj.dst = none → M j (a.tmps.getD (st j) undef) w
def FlowPost2 (G : Nat → Value → World → Prop) (st : Nat → Nat) (M : Nat → Value → World → Prop) (B : World → Prop) (Rel : World → World → Prop) (i : Nat) (o : Oper) (a : Act) (w : World) (v : Value) (w' : World) : Prop :=
 B w' ∧ Rel w w' ∧ match o.dst with | some d => G d v w' | none => M i (a.tmps.getD (st i) undef) w'
def FlowStep2 (P : Program) (Q : Exit → Act → World → Prop) (G : Nat → Value → World → Prop) (st : Nat → Nat) (M : Nat → Value → World → Prop) (B : World → Prop) (Rel : World → World → Prop) (a0 : Act) (ops : Array Oper) (i : Nat) (o : Oper) : Prop :=
 ∀ a w, FlowAt2 G st M B a0 ops o a w → ops[i]? = some o → wpOp P ops Q i (fun a' w' => ∃ v, a' = a.put o.dst v ∧ FlowPost2 G st M B Rel i o a w v w') a w
def FlowSteps2 (P : Program) (Q : Exit → Act → World → Prop) (G : Nat → Value → World → Prop) (st : Nat → Nat) (M : Nat → Value → World → Prop) (B : World → Prop) (Rel : World → World → Prop) (a0 : Act) (ops : Array Oper) : Nat → List Oper → Prop
 | _, [] => True
 | i, o :: r => FlowStep2 P Q G st M B Rel a0 ops i o ∧ FlowSteps2 P Q G st M B Rel a0 ops (i + 1) r
theorem flowSteps2_get : ∀ (l : List Oper) (i k : Nat) (o : Oper), FlowSteps2 P Q G st M B Rel a0 ops i l → l[k]? = some o → FlowStep2 P Q G st M B Rel a0 ops (i + k) o := by
 intro l
 induction l with
 | nil => intro i k o h hk; simp at hk
 | cons x r ih =>
  intro i k o h hk
  cases k with
  | zero => simp at hk; subst hk; exact h.1
  | succ k => have := ih (i + 1) k o h.2 (by simpa using hk); rwa [show i + (k + 1) = i + 1 + k by omega]
def stOk (ops : Array Oper) (st : Nat → Nat) : Bool := (List.range ops.size).all fun j => ((ops[j]?).map fun o => o.dst.isSome || waits ops o (st j) || notDst ops (st j)).getD true
theorem flow2_any (ht : topo ops = true) (ho : once ops a0.tmps.size = true) (stab : ∀ d u w w', Rel w w' → G d u w → G d u w') (stabM : ∀ j u w w', Rel w w' → M j u w → M j u w') (hstk : stOk ops st = true)
  (steps : FlowSteps2 P Q G st M B Rel a0 ops 0 ops.toList)
  (fin : ∀ a w, B w → a.tmps.size = a0.tmps.size → a.defers = a0.defers → (∀ d, notDst ops d = true → a.tmps.getD d undef = a0.tmps.getD d undef) → (∀ d, isDst ops d = true → G d (a.tmps.getD d undef) w) →
   (∀ j oj, ops[j]? = some oj → oj.dst = none → M j (a.tmps.getD (st j) undef) w) → Q .normal a w) :
  ∀ (fuel : Nat) (listed : Array Bool) (a : Act) (w : World), listed.size = ops.size → unlisted ops listed ≤ fuel → Flow2 G st M B a0 ops listed a w → wpAny P .any ops Q fuel listed a w := by
 have inn : ∀ {j : Nat} {oj : Oper}, ops[j]? = some oj → j < ops.size := by
  intro j oj hj
  rcases Nat.lt_or_ge j ops.size with h' | h'
  ·exact h'
  ·rw [Array.getElem?_eq_none h'] at hj; cases hj
 have go : ∀ (listed : Array Bool) (a : Act) (w : World), listed.size = ops.size → Flow2 G st M B a0 ops listed a w → Region.ready .any ops listed = [] → Q .normal a w := by
  intro listed a w hs hF hr
  have hall := all_listed ht hs hr
  refine fin a w hF.base hF.size hF.defers hF.rest (fun d hd => ?_) (fun j oj hj hn => hF.mems j oj hj (hall j (inn hj)) hn)
  obtain ⟨k, hk, hb⟩ := Array.any_eq_true.1 hd
  exact hF.slots k ops[k] d (Array.getElem?_eq_getElem hk) (hall k hk) (by simpa using hb)
 intro fuel
 induction fuel with
 | zero =>
  intro listed a w hs hu hF
  have hr : Region.ready .any ops listed = [] := by
   cases hc : Region.ready .any ops listed with
   | nil => rfl
   | cons x r =>
    have := unlisted_lt (ops := ops) (listed := listed) (i := x) (by rw [hc]; exact List.mem_cons_self ..)
    omega
  exact ⟨hr, go listed a w hs hF hr⟩
 | succ fuel ih =>
  intro listed a w hs hu hF
  refine ⟨go listed a w hs hF, fun i hi => ?_⟩
  obtain ⟨h0, o, hoi, hall⟩ := mem_ready.1 hi
  have hst := flowSteps2_get ops.toList 0 i o steps (by rw [Array.getElem?_toList]; exact hoi)
  rw [Nat.zero_add] at hst
  have hat : FlowAt2 G st M B a0 ops o a w := ⟨hF.base, hF.rest, fun d hd => by
    obtain ⟨k, hk, hb⟩ := Array.any_eq_true.1 hd
    simp only [Bool.and_eq_true, beq_iff_eq] at hb
    have hl := hall _ (Array.getElem_mem hk) hb.1
    cases hx : ops[o.after[k].on]? with
    | none => rw [hx] at hb; cases hb.2
    | some oj => rw [hx] at hb; exact hF.slots _ oj d hx hl hb.2,
   fun j oj hj ha hn => by
    obtain ⟨k, hk, hb⟩ := Array.any_eq_true.1 ha
    simp only [Bool.and_eq_true, beq_iff_eq] at hb
    have hl := hall _ (Array.getElem_mem hk) hb.1
    rw [hb.2] at hl
    exact hF.mems j oj hj hl hn⟩
  refine wpOp_mono (fun a' w' h => ?_) (hst a w hat hoi)
  obtain ⟨v, rfl, hB, hR, hG⟩ := h
  have hlt := unlisted_lt hi
  refine ih _ _ _ (by simpa using hs) (by omega) ⟨hB, ?_, ?_, ?_, ?_, ?_, ?_⟩
  ·rw [← hF.size]; cases o.dst <;> simp [Act.put]
  ·rw [← hF.defers]; cases o.dst <;> simp [Act.put]
  ·intro d hd
   rw [← hF.rest d hd]
   have hne : o.dst ≠ some d := by
    have := (Array.all_eq_true_iff_forall_mem.1 hd) o (Array.mem_of_getElem? hoi)
    simpa using this
   cases hod : o.dst with
   | none => rfl
   | some d' => rw [hod] at hne; simp [Act.put, Array.getElem?_setIfInBounds_ne (show d' ≠ d from fun e => hne (by rw [e]))]
  ·intro j oj d hj hl hd
   by_cases e : i = j
   ·subst e
    rw [hoi] at hj
    cases hj
    have hd2 := once_lt ho hoi hd
    rw [← hF.size] at hd2
    rw [hd] at hG ⊢
    simpa [Act.put, hd2] using hG
   ·rw [getD_set_ne false e] at hl
    have h1 := hF.slots j oj d hj hl hd
    have hv : (a.put o.dst v).tmps.getD d undef = a.tmps.getD d undef := by
     cases hod : o.dst with
     | none => rfl
     | some d' =>
      have := once_ne ho hoi hj e hod
      rw [hd] at this
      simp [Act.put, Array.getElem?_setIfInBounds_ne (show d' ≠ d from fun e => this (by rw [e]))]
    rw [hv]
    exact stab d _ w w' hR h1
  ·intro j oj hj hl hn
   have hv : ∀ jj ojj, ops[jj]? = some ojj → ojj.dst = none → (jj = i ∨ listed.getD jj false = true) → (a.put o.dst v).tmps.getD (st jj) undef = a.tmps.getD (st jj) undef := by
    intro jj ojj hjj hnn hcase
    cases hod : o.dst with
    | none => rfl
    | some d' =>
     have hne : d' ≠ st jj := by
      intro he
      have hs1 := (List.all_eq_true.1 hstk) jj (List.mem_range.2 (inn hjj))
      rw [hjj] at hs1
      simp only [Option.map_some, Option.getD_some, hnn, Option.isSome_none, Bool.false_or, Bool.or_eq_true] at hs1
      rcases hs1 with hs1 | hs1
      ·obtain ⟨k, hk, hb⟩ := Array.any_eq_true.1 hs1
       simp only [Bool.and_eq_true, beq_iff_eq] at hb
       rcases hcase with hc | hc
       ·subst hc
        rw [hoi] at hjj
        cases hjj
        rw [hod] at hnn
        cases hnn
       ·have hl2 := hF.closed jj ojj hjj hc _ (Array.getElem_mem hk) hb.1
        cases hx : ops[ojj.after[k].on]? with
        | none => rw [hx] at hb; cases hb.2
        | some ok =>
         rw [hx] at hb
         have hdk : ok.dst = some (st jj) := hb.2
         by_cases hki : ojj.after[k].on = i
         ·rw [hki] at hl2
          have hlt2 : i < listed.size := by rw [hs]; exact inn hoi
          simp [hlt2] at h0 hl2
          rw [h0] at hl2
          cases hl2
         ·exact once_ne ho hx hoi hki hdk (by rw [hod, he])
      ·have := (Array.all_eq_true_iff_forall_mem.1 hs1) o (Array.mem_of_getElem? hoi)
       rw [hod, he] at this
       simp at this
     simp [Act.put, Array.getElem?_setIfInBounds_ne hne]
   by_cases e : i = j
   ·subst e
    rw [hv i oj hj hn (Or.inl rfl)]
    rw [hoi] at hj
    cases hj
    rw [hn] at hG
    exact hG
   ·rw [getD_set_ne false e] at hl
    rw [hv j oj hj hn (Or.inr hl)]
    exact stabM j _ w w' hR (hF.mems j oj hj hl hn)
  ·intro j oj hj hl e he hb
   by_cases ei : i = j
   ·subst ei
    rw [hoi] at hj
    cases hj
    exact getD_set_true (hall e he hb)
   ·rw [getD_set_ne false ei] at hl
    exact getD_set_true (hF.closed j oj hj hl e he hb)
theorem wp_region_flow2 {id : Nat} {w : World} (G : Nat → Value → World → Prop) (st : Nat → Nat) (M : Nat → Value → World → Prop) (B : World → Prop) (Rel : World → World → Prop) (hm : P.follows .mixedOrders = true) (ht : topo ops = true) (ho : once ops a0.tmps.size = true) (hB : B w.drew)
  (stab : ∀ d u w w', Rel w w' → G d u w → G d u w') (stabM : ∀ j u w w', Rel w w' → M j u w → M j u w') (hstk : stOk ops st = true) (steps : FlowSteps2 P Q G st M B Rel a0 ops 0 ops.toList)
  (fin : ∀ a w, B w → a.tmps.size = a0.tmps.size → a.defers = a0.defers → (∀ d, notDst ops d = true → a.tmps.getD d undef = a0.tmps.getD d undef) → (∀ d, isDst ops d = true → G d (a.tmps.getD d undef) w) →
   (∀ j oj, ops[j]? = some oj → oj.dst = none → M j (a.tmps.getD (st j) undef) w) → Q .normal a w) : (Code.region id ops true).wp P Q a0 w :=
 wp_region_any hm (flow2_any ht ho stab stabM hstk steps fin ops.size _ a0 _ (by simp) (by unfold unlisted; exact Nat.le_trans (List.length_filter_le _ _) (by simp))
  ⟨hB, rfl, rfl, fun _ _ => rfl, fun j oj d _ hl _ => by
   by_cases h : j < ops.size <;> simp [h] at hl, fun j oj _ hl _ => by
   by_cases h : j < ops.size <;> simp [h] at hl, fun j oj _ hl => by
   by_cases h : j < ops.size <;> simp [h] at hl⟩)
theorem flow2_value {i : Nat} {o : Oper} {d : Nat} (hd : o.dst = some d) (hg : o.guard = none) (h : ∀ a w, FlowAt2 G st M B a0 ops o a w → ∃ v w', (execOp a.eval o).run P w = .ok (.value v) w' ∧ B w' ∧ Rel w w' ∧ G d v w') : FlowStep2 P Q G st M B Rel a0 ops i o := by
 intro a w hF hi
 obtain ⟨v, w', hr, hB, hR, hG⟩ := h a w hF
 unfold wpOp
 simp only [hi, wanted_none hg, if_true]
 refine Or.inl ?_
 unfold Oper.wp
 rw [hr]
 exact ⟨v, rfl, hB, hR, by rw [hd]; exact hG⟩
theorem flow2_skip {i : Nat} {o : Oper} (hd : o.dst = none) (hg : o.guard = none) (h : ∀ a w, FlowAt2 G st M B a0 ops o a w → ∃ w', (execOp a.eval o).run P w = .ok .skip w' ∧ B w' ∧ Rel w w' ∧ M i (a.tmps.getD (st i) undef) w') : FlowStep2 P Q G st M B Rel a0 ops i o := by
 intro a w hF hi
 obtain ⟨w', hr, hB, hR, hG⟩ := h a w hF
 unfold wpOp
 simp only [hi, wanted_none hg, if_true]
 refine Or.inl ?_
 unfold Oper.wp
 rw [hr]
 exact ⟨undef, rfl, hB, hR, by rw [hd]; exact hG⟩
theorem flow2_call {i : Nat} {o : Oper} {d : Nat} (hd : o.dst = some d) (hg : o.guard = none)
  (h : ∀ a w, FlowAt2 G st M B a0 ops o a w → ∃ f args, (execOp a.eval o).run P w = .ok (.enter f args) w ∧ Calls P f args w fun e w' => ∃ v, e = .returned v ∧ B w' ∧ Rel w w' ∧ G d v w') : FlowStep2 P Q G st M B Rel a0 ops i o := by
 intro a w hF hi
 obtain ⟨f, args, hr, hc⟩ := h a w hF
 unfold wpOp
 simp only [hi, wanted_none hg, if_true]
 refine Or.inl ?_
 unfold Oper.wp
 rw [hr]
 refine Calls.mono hc fun e w' he => ?_
 obtain ⟨v, rfl, hB, hR, hG⟩ := he
 exact ⟨v, rfl, hB, hR, by rw [hd]; exact hG⟩
end
end
section
open Go
section
variable {P : Program} {ops : Array Oper} {Q : Exit → Act → World → Prop} {G : Nat → Value → World → Prop} {st : Nat → Nat} {M : Nat → Value → World → Prop} {B : World → Prop} {ps : List Nat} {a0 : Act}
def PtrsApart (ps : List Nat) (a : Act) (w : World) : Prop :=
 ∀ s ∈ ps, ∀ C, a.tmps.getD s undef = .pointer (some ⟨C, 0, none⟩) → C < w.heap.size ∧ ∀ t ∈ ps, t ≠ s → a.tmps.getD t undef ≠ .pointer (some ⟨C, 0, none⟩)
theorem ptrs_grown {ps : List Nat} {a : Act} {w w' : World} (h : PtrsApart ps a w) (hs : w.heap.size ≤ w'.heap.size) : PtrsApart ps a w' :=
 fun s hm C e => ⟨Nat.lt_of_lt_of_le (h s hm C e).1 hs, (h s hm C e).2⟩
theorem put_getD {a : Act} {dst : Option Tmp} {v : Value} {s : Nat} (h : dst ≠ some s) : (a.put dst v).tmps.getD s undef = a.tmps.getD s undef := by
 cases dst with
 | none => rfl
 | some d => simp [Act.put, Array.getElem?_setIfInBounds_ne (show d ≠ s from fun e => h (by rw [e]))]
theorem ptrs_put {ps : List Nat} {a : Act} {w w' : World} {dst : Option Tmp} {v : Value} (h : PtrsApart ps a w) (hs : w.heap.size ≤ w'.heap.size) (hd : ∀ s ∈ ps, dst ≠ some s) : PtrsApart ps (a.put dst v) w' := by
 intro s hm C e
 rw [put_getD (hd s hm)] at e
 refine ⟨Nat.lt_of_lt_of_le (h s hm C e).1 hs, fun t ht hts => ?_⟩
 rw [put_getD (hd t ht)]
 exact (h s hm C e).2 t ht hts
theorem ptrs_new {ps : List Nat} {a : Act} {w w' : World} {d : Nat} (h : PtrsApart ps a w) (hs : w.heap.size < w'.heap.size) (hd : d < a.tmps.size) : PtrsApart ps (a.put (some d) (.pointer (some ⟨w.heap.size, 0, none⟩))) w' := by
 have hsame : ∀ v, (a.put (some d) v).tmps.getD d undef = v := fun v => by simp [Act.put, hd]
 intro s hm C e
 by_cases e1 : d = s
 ·subst e1
  rw [hsame] at e
  cases e
  refine ⟨hs, fun t ht hts e2 => ?_⟩
  rw [put_getD (by intro e3; exact hts (Option.some.inj e3).symm)] at e2
  have := (h t ht _ e2).1
  omega
 ·rw [put_getD (by intro e3; exact e1 (Option.some.inj e3))] at e
  refine ⟨by have := (h s hm C e).1; omega, fun t ht hts => ?_⟩
  by_cases e2 : d = t
  ·subst e2
   rw [hsame]
   intro e3
   cases e3
   have := (h s hm _ e).1
   omega
  ·rw [put_getD (by intro e3; exact e2 (Option.some.inj e3))]
   exact (h s hm C e).2 t ht hts
structure Flow3 (G : Nat → Value → World → Prop) (st : Nat → Nat) (M : Nat → Value → World → Prop) (B : World → Prop) (ps : List Nat) (a0 : Act) (ops : Array Oper) (listed : Array Bool) (a : Act) (w : World) : Prop where
 base : B w
 size : a.tmps.size = a0.tmps.size
 defers : a.defers = a0.defers
 rest : ∀ d, notDst ops d = true → a.tmps.getD d undef = a0.tmps.getD d undef
 slots : ∀ j oj d, ops[j]? = some oj → listed.getD j false = true → oj.dst = some d → G d (a.tmps.getD d undef) w
 mems : ∀ j oj, ops[j]? = some oj → listed.getD j false = true → oj.dst = none → M j (a.tmps.getD (st j) undef) w
 ptrs : PtrsApart ps a w
 closed : ∀ j oj, ops[j]? = some oj → listed.getD j false = true → ∀ e ∈ oj.after, Region.binds .any e = true → listed.getD e.on false = true
structure FlowAt3 (G : Nat → Value → World → Prop) (st : Nat → Nat) (M : Nat → Value → World → Prop) (B : World → Prop) (ps : List Nat) (a0 : Act) (ops : Array Oper) (o : Oper) (a : Act) (w : World) : Prop where
 base : B w
 size : a.tmps.size = a0.tmps.size
 ptrs : PtrsApart ps a w
 rest : ∀ d, notDst ops d = true → a.tmps.getD d undef = a0.tmps.getD d undef
 dep : ∀ d, waits ops o d = true → G d (a.tmps.getD d undef) w
 mem : ∀ j oj, ops[j]? = some oj → waitsFor o j = true → oj.dst = none → M j (a.tmps.getD (st j) undef) w
def FlowPost3 (G : Nat → Value → World → Prop) (st : Nat → Nat) (M : Nat → Value → World → Prop) (B : World → Prop) (ps : List Nat) (ops : Array Oper) (i : Nat) (o : Oper) (a : Act) (w : World) (v : Value) (w' : World) : Prop :=
 B w' ∧ (∀ d u, G d u w → G d u w') ∧ (∀ j oj, j ≠ i → ops[j]? = some oj → oj.dst = none → M j (a.tmps.getD (st j) undef) w → M j (a.tmps.getD (st j) undef) w') ∧ PtrsApart ps (a.put o.dst v) w' ∧
  match o.dst with | some d => G d v w' | none => M i (a.tmps.getD (st i) undef) w'
def FlowStep3 (P : Program) (Q : Exit → Act → World → Prop) (G : Nat → Value → World → Prop) (st : Nat → Nat) (M : Nat → Value → World → Prop) (B : World → Prop) (ps : List Nat) (a0 : Act) (ops : Array Oper) (i : Nat) (o : Oper) : Prop :=
 ∀ a w, FlowAt3 G st M B ps a0 ops o a w → ops[i]? = some o → wpOp P ops Q i (fun a' w' => ∃ v, a' = a.put o.dst v ∧ FlowPost3 G st M B ps ops i o a w v w') a w
def FlowSteps3 (P : Program) (Q : Exit → Act → World → Prop) (G : Nat → Value → World → Prop) (st : Nat → Nat) (M : Nat → Value → World → Prop) (B : World → Prop) (ps : List Nat) (a0 : Act) (ops : Array Oper) : Nat → List Oper → Prop
 | _, [] => True
 | i, o :: r => FlowStep3 P Q G st M B ps a0 ops i o ∧ FlowSteps3 P Q G st M B ps a0 ops (i + 1) r
theorem flowSteps3_get : ∀ (l : List Oper) (i k : Nat) (o : Oper), FlowSteps3 P Q G st M B ps a0 ops i l → l[k]? = some o → FlowStep3 P Q G st M B ps a0 ops (i + k) o := by
 intro l
 induction l with
 | nil => intro i k o h hk; simp at hk
 | cons x r ih =>
  intro i k o h hk
  cases k with
  | zero => simp at hk; subst hk; exact h.1
  | succ k => have := ih (i + 1) k o h.2 (by simpa using hk); rwa [show i + (k + 1) = i + 1 + k by omega]
theorem flow3_any (ht : topo ops = true) (ho : once ops a0.tmps.size = true) (hstk : stOk ops st = true)
  (steps : FlowSteps3 P Q G st M B ps a0 ops 0 ops.toList)
  (fin : ∀ a w, B w → a.tmps.size = a0.tmps.size → a.defers = a0.defers → (∀ d, notDst ops d = true → a.tmps.getD d undef = a0.tmps.getD d undef) → (∀ d, isDst ops d = true → G d (a.tmps.getD d undef) w) →
   (∀ j oj, ops[j]? = some oj → oj.dst = none → M j (a.tmps.getD (st j) undef) w) → Q .normal a w) :
  ∀ (fuel : Nat) (listed : Array Bool) (a : Act) (w : World), listed.size = ops.size → unlisted ops listed ≤ fuel → Flow3 G st M B ps a0 ops listed a w → wpAny P .any ops Q fuel listed a w := by
 have inn : ∀ {j : Nat} {oj : Oper}, ops[j]? = some oj → j < ops.size := by
  intro j oj hj
  rcases Nat.lt_or_ge j ops.size with h' | h'
  ·exact h'
  ·rw [Array.getElem?_eq_none h'] at hj; cases hj
 have go : ∀ (listed : Array Bool) (a : Act) (w : World), listed.size = ops.size → Flow3 G st M B ps a0 ops listed a w → Region.ready .any ops listed = [] → Q .normal a w := by
  intro listed a w hs hF hr
  have hall := all_listed ht hs hr
  refine fin a w hF.base hF.size hF.defers hF.rest (fun d hd => ?_) (fun j oj hj hn => hF.mems j oj hj (hall j (inn hj)) hn)
  obtain ⟨k, hk, hb⟩ := Array.any_eq_true.1 hd
  exact hF.slots k ops[k] d (Array.getElem?_eq_getElem hk) (hall k hk) (by simpa using hb)
 intro fuel
 induction fuel with
 | zero =>
  intro listed a w hs hu hF
  have hr : Region.ready .any ops listed = [] := by
   cases hc : Region.ready .any ops listed with
   | nil => rfl
   | cons x r =>
    have := unlisted_lt (ops := ops) (listed := listed) (i := x) (by rw [hc]; exact List.mem_cons_self ..)
    omega
  exact ⟨hr, go listed a w hs hF hr⟩
 | succ fuel ih =>
  intro listed a w hs hu hF
  refine ⟨go listed a w hs hF, fun i hi => ?_⟩
  obtain ⟨h0, o, hoi, hall⟩ := mem_ready.1 hi
  have hst := flowSteps3_get ops.toList 0 i o steps (by rw [Array.getElem?_toList]; exact hoi)
  rw [Nat.zero_add] at hst
  have hat : FlowAt3 G st M B ps a0 ops o a w := ⟨hF.base, hF.size, hF.ptrs, hF.rest, fun d hd => by
    obtain ⟨k, hk, hb⟩ := Array.any_eq_true.1 hd
    simp only [Bool.and_eq_true, beq_iff_eq] at hb
    have hl := hall _ (Array.getElem_mem hk) hb.1
    cases hx : ops[o.after[k].on]? with
    | none => rw [hx] at hb; cases hb.2
    | some oj => rw [hx] at hb; exact hF.slots _ oj d hx hl hb.2,
   fun j oj hj ha hn => by
    obtain ⟨k, hk, hb⟩ := Array.any_eq_true.1 ha
    simp only [Bool.and_eq_true, beq_iff_eq] at hb
    have hl := hall _ (Array.getElem_mem hk) hb.1
    rw [hb.2] at hl
    exact hF.mems j oj hj hl hn⟩
  refine wpOp_mono (fun a' w' h => ?_) (hst a w hat hoi)
  obtain ⟨v, rfl, hB, hRG, hRM, hPt, hG⟩ := h
  have hlt := unlisted_lt hi
  refine ih _ _ _ (by simpa using hs) (by omega) ⟨hB, ?_, ?_, ?_, ?_, ?_, hPt, ?_⟩
  ·rw [← hF.size]; cases o.dst <;> simp [Act.put]
  ·rw [← hF.defers]; cases o.dst <;> simp [Act.put]
  ·intro d hd
   rw [← hF.rest d hd]
   have hne : o.dst ≠ some d := by
    have := (Array.all_eq_true_iff_forall_mem.1 hd) o (Array.mem_of_getElem? hoi)
    simpa using this
   cases hod : o.dst with
   | none => rfl
   | some d' => rw [hod] at hne; simp [Act.put, Array.getElem?_setIfInBounds_ne (show d' ≠ d from fun e => hne (by rw [e]))]
  ·intro j oj d hj hl hd
   by_cases e : i = j
   ·subst e
    rw [hoi] at hj
    cases hj
    have hd2 := once_lt ho hoi hd
    rw [← hF.size] at hd2
    rw [hd] at hG ⊢
    simpa [Act.put, hd2] using hG
   ·rw [getD_set_ne false e] at hl
    have h1 := hF.slots j oj d hj hl hd
    have hv : (a.put o.dst v).tmps.getD d undef = a.tmps.getD d undef := by
     cases hod : o.dst with
     | none => rfl
     | some d' =>
      have := once_ne ho hoi hj e hod
      rw [hd] at this
      simp [Act.put, Array.getElem?_setIfInBounds_ne (show d' ≠ d from fun e => this (by rw [e]))]
    rw [hv]
    exact hRG d _ h1
  ·intro j oj hj hl hn
   have hv : ∀ jj ojj, ops[jj]? = some ojj → ojj.dst = none → (jj = i ∨ listed.getD jj false = true) → (a.put o.dst v).tmps.getD (st jj) undef = a.tmps.getD (st jj) undef := by
    intro jj ojj hjj hnn hcase
    cases hod : o.dst with
    | none => rfl
    | some d' =>
     have hne : d' ≠ st jj := by
      intro he
      have hs1 := (List.all_eq_true.1 hstk) jj (List.mem_range.2 (inn hjj))
      rw [hjj] at hs1
      simp only [Option.map_some, Option.getD_some, hnn, Option.isSome_none, Bool.false_or, Bool.or_eq_true] at hs1
      rcases hs1 with hs1 | hs1
      ·obtain ⟨k, hk, hb⟩ := Array.any_eq_true.1 hs1
       simp only [Bool.and_eq_true, beq_iff_eq] at hb
       rcases hcase with hc | hc
       ·subst hc
        rw [hoi] at hjj
        cases hjj
        rw [hod] at hnn
        cases hnn
       ·have hl2 := hF.closed jj ojj hjj hc _ (Array.getElem_mem hk) hb.1
        cases hx : ops[ojj.after[k].on]? with
        | none => rw [hx] at hb; cases hb.2
        | some ok =>
         rw [hx] at hb
         have hdk : ok.dst = some (st jj) := hb.2
         by_cases hki : ojj.after[k].on = i
         ·rw [hki] at hl2
          have hlt2 : i < listed.size := by rw [hs]; exact inn hoi
          simp [hlt2] at h0 hl2
          rw [h0] at hl2
          cases hl2
         ·exact once_ne ho hx hoi hki hdk (by rw [hod, he])
      ·have := (Array.all_eq_true_iff_forall_mem.1 hs1) o (Array.mem_of_getElem? hoi)
       rw [hod, he] at this
       simp at this
     simp [Act.put, Array.getElem?_setIfInBounds_ne hne]
   by_cases e : i = j
   ·subst e
    rw [hv i oj hj hn (Or.inl rfl)]
    rw [hoi] at hj
    cases hj
    rw [hn] at hG
    exact hG
   ·rw [getD_set_ne false e] at hl
    rw [hv j oj hj hn (Or.inr hl)]
    exact hRM j oj (fun e2 => e e2.symm) hj hn (hF.mems j oj hj hl hn)
  ·intro j oj hj hl e he hb
   by_cases ei : i = j
   ·subst ei
    rw [hoi] at hj
    cases hj
    exact getD_set_true (hall e he hb)
   ·rw [getD_set_ne false ei] at hl
    exact getD_set_true (hF.closed j oj hj hl e he hb)
theorem wp_region_flow3 {id : Nat} {w : World} (G : Nat → Value → World → Prop) (st : Nat → Nat) (M : Nat → Value → World → Prop) (B : World → Prop) (ps : List Nat) (hm : P.follows .mixedOrders = true) (ht : topo ops = true) (ho : once ops a0.tmps.size = true) (hB : B w.drew) (hps : PtrsApart ps a0 w.drew)
  (hstk : stOk ops st = true) (steps : FlowSteps3 P Q G st M B ps a0 ops 0 ops.toList)
  (fin : ∀ a w, B w → a.tmps.size = a0.tmps.size → a.defers = a0.defers → (∀ d, notDst ops d = true → a.tmps.getD d undef = a0.tmps.getD d undef) → (∀ d, isDst ops d = true → G d (a.tmps.getD d undef) w) →
   (∀ j oj, ops[j]? = some oj → oj.dst = none → M j (a.tmps.getD (st j) undef) w) → Q .normal a w) : (Code.region id ops true).wp P Q a0 w :=
 wp_region_any hm (flow3_any ht ho hstk steps fin ops.size _ a0 _ (by simp) (by unfold unlisted; exact Nat.le_trans (List.length_filter_le _ _) (by simp))
  ⟨hB, rfl, rfl, fun _ _ => rfl, fun j oj d _ hl _ => by
   by_cases h : j < ops.size <;> simp [h] at hl, fun j oj _ hl _ => by
   by_cases h : j < ops.size <;> simp [h] at hl, hps, fun j oj _ hl => by
   by_cases h : j < ops.size <;> simp [h] at hl⟩)
def Wants (ops : Array Oper) (o : Oper) (a : Act) : Prop := Region.wanted o (yielded ops a.tmps) = true
theorem wants_none {o : Oper} {a : Act} (h : o.guard = none) : Wants ops o a := wanted_none h _
theorem wants_some {o : Oper} {a : Act} {j d : Nat} {b : Bool} (h : o.guard = some (j, b)) (hj : (ops[j]?).bind (·.dst) = some d) (hd : d < a.tmps.size) (hv : a.tmps.getD d undef = .bool b) : Wants ops o a := by
 unfold Wants Region.wanted yielded
 rw [h]
 have : a.tmps[d]? = some (.bool b) := by
  rw [Array.getElem?_eq_getElem hd]
  simp [hd] at hv
  rw [hv]
 simp [hj, this]
theorem not_wants {o : Oper} {a : Act} {j d : Nat} {b c : Bool} (h : o.guard = some (j, b)) (hj : (ops[j]?).bind (·.dst) = some d) (hd : d < a.tmps.size) (hv : a.tmps.getD d undef = .bool c) (hbc : c ≠ b) : Region.wanted o (yielded ops a.tmps) = false := by
 unfold Region.wanted yielded
 rw [h]
 have : a.tmps[d]? = some (.bool c) := by
  rw [Array.getElem?_eq_getElem hd]
  simp [hd] at hv
  rw [hv]
 simp [hj, this, hbc]
theorem flow3_value {i : Nat} {o : Oper} {d : Nat} (hd : o.dst = some d) (h : ∀ a w, FlowAt3 G st M B ps a0 ops o a w → Wants ops o a ∧ ∃ v w', (execOp a.eval o).run P w = .ok (.value v) w' ∧ B w' ∧ (∀ d u, G d u w → G d u w') ∧ (∀ j u, M j u w → M j u w') ∧ PtrsApart ps (a.put (some d) v) w' ∧ G d v w') : FlowStep3 P Q G st M B ps a0 ops i o := by
 intro a w hF hi
 obtain ⟨hw, v, w', hr, hB, hRG, hRM, hP, hG⟩ := h a w hF
 unfold Wants at hw
 unfold wpOp
 simp only [hi, hw, if_true]
 refine Or.inl ?_
 unfold Oper.wp
 rw [hr]
 exact ⟨v, rfl, hB, hRG, fun j oj _ _ _ h => hRM j _ h, by rw [hd]; exact hP, by rw [hd]; exact hG⟩
theorem flow3_store {i : Nat} {o : Oper} (hd : o.dst = none) (h : ∀ a w, FlowAt3 G st M B ps a0 ops o a w → Wants ops o a ∧ ∃ w', (execOp a.eval o).run P w = .ok .skip w' ∧ B w' ∧ (∀ d u, G d u w → G d u w') ∧ (∀ j oj, j ≠ i → ops[j]? = some oj → oj.dst = none → M j (a.tmps.getD (st j) undef) w → M j (a.tmps.getD (st j) undef) w') ∧ w.heap.size ≤ w'.heap.size ∧ M i (a.tmps.getD (st i) undef) w') : FlowStep3 P Q G st M B ps a0 ops i o := by
 intro a w hF hi
 obtain ⟨hw, w', hr, hB, hRG, hRM, hs, hG⟩ := h a w hF
 unfold Wants at hw
 unfold wpOp
 simp only [hi, hw, if_true]
 refine Or.inl ?_
 unfold Oper.wp
 rw [hr]
 exact ⟨undef, rfl, hB, hRG, hRM, by rw [hd]; exact ptrs_grown hF.ptrs hs, by rw [hd]; exact hG⟩
theorem flow3_call {i : Nat} {o : Oper} {d : Nat} (hd : o.dst = some d)
  (h : ∀ a w, FlowAt3 G st M B ps a0 ops o a w → Wants ops o a ∧ ∃ f args, (execOp a.eval o).run P w = .ok (.enter f args) w ∧ Calls P f args w fun e w' => ∃ v, e = .returned v ∧ B w' ∧ (∀ d u, G d u w → G d u w') ∧ (∀ j u, M j u w → M j u w') ∧ PtrsApart ps (a.put (some d) v) w' ∧ G d v w') : FlowStep3 P Q G st M B ps a0 ops i o := by
 intro a w hF hi
 obtain ⟨hw, f, args, hr, hc⟩ := h a w hF
 unfold Wants at hw
 unfold wpOp
 simp only [hi, hw, if_true]
 refine Or.inl ?_
 unfold Oper.wp
 rw [hr]
 refine Calls.mono hc fun e w' he => ?_
 obtain ⟨v, rfl, hB, hRG, hRM, hP, hG⟩ := he
 exact ⟨v, rfl, hB, hRG, fun j oj _ _ _ h => hRM j _ h, by rw [hd]; exact hP, by rw [hd]; exact hG⟩
end
end
section
open Go.RowKit
theorem FlowAt3.d {G : Nat → Value → World → Prop} {st : Nat → Nat} {M : Nat → Value → World → Prop} {B : World → Prop} {ps : List Nat} {a0 : Act} {ops : Array Oper} {o : Oper} {a : Act} {w : World} (h : FlowAt3 G st M B ps a0 ops o a w) (d : Nat) (hd : waits ops o d = true := by kernel_rfl) : G d (a.tmps.getD d undef) w := h.dep d hd
theorem FlowAt3.r {G : Nat → Value → World → Prop} {st : Nat → Nat} {M : Nat → Value → World → Prop} {B : World → Prop} {ps : List Nat} {a0 : Act} {ops : Array Oper} {o : Oper} {a : Act} {w : World} (h : FlowAt3 G st M B ps a0 ops o a w) (d : Nat) (hd : notDst ops d = true := by kernel_rfl) : a.tmps.getD d undef = a0.tmps.getD d undef := h.rest d hd
theorem FlowAt.d {G : Nat → Value → World → Prop} {M : Nat → World → Prop} {B : World → Prop} {a0 : Act} {ops : Array Oper} {o : Oper} {a : Act} {w : World} (h : FlowAt G M B a0 ops o a w) (d : Nat) (hd : waits ops o d = true := by kernel_rfl) : G d (a.tmps.getD d undef) w := h.dep d hd
theorem FlowAt.r {G : Nat → Value → World → Prop} {M : Nat → World → Prop} {B : World → Prop} {a0 : Act} {ops : Array Oper} {o : Oper} {a : Act} {w : World} (h : FlowAt G M B a0 ops o a w) (d : Nat) (hd : notDst ops d = true := by kernel_rfl) : a.tmps.getD d undef = a0.tmps.getD d undef := h.rest d hd
theorem FlowAt2.d {G : Nat → Value → World → Prop} {st : Nat → Nat} {M : Nat → Value → World → Prop} {B : World → Prop} {a0 : Act} {ops : Array Oper} {o : Oper} {a : Act} {w : World} (h : FlowAt2 G st M B a0 ops o a w) (d : Nat) (hd : waits ops o d = true := by kernel_rfl) : G d (a.tmps.getD d undef) w := h.dep d hd
theorem FlowAt2.r {G : Nat → Value → World → Prop} {st : Nat → Nat} {M : Nat → Value → World → Prop} {B : World → Prop} {a0 : Act} {ops : Array Oper} {o : Oper} {a : Act} {w : World} (h : FlowAt2 G st M B a0 ops o a w) (d : Nat) (hd : notDst ops d = true := by kernel_rfl) : a.tmps.getD d undef = a0.tmps.getD d undef := h.rest d hd
end
section
open Go.RowKit
def Blk (w : World) (B : Nat) (T : TypeId) (L : List Value) : Prop := w.heap[B]? = some (.cells L.toArray T (0, 0))
theorem Blk.lt {w : World} {B : Nat} {T : TypeId} {L : List Value} (h : Blk w B T L) : B < w.heap.size := by
 rcases Nat.lt_or_ge B w.heap.size with h' | h'
 ·exact h'
 ·unfold Blk at h; simp [Array.getElem?_eq_none h'] at h
theorem Blk.cell {w : World} {B : Nat} {T : TypeId} {L : List Value} (h : Blk w B T L) {i : Nat} {v : Value} (hv : L[i]? = some v) : w.cell? ⟨B, i, none⟩ = some v := by
 unfold Blk at h; simp [World.cell?, h, hv]
theorem Blk.free {w : World} {B : Nat} {T : TypeId} {L : List Value} (h : Blk w B T L) (i : Nat) : w.frozen? ⟨B, i, none⟩ = false := by
 unfold Blk at h; simp [World.frozen?, h]
theorem Blk.set {w : World} {B : Nat} {T : TypeId} {L : List Value} (h : Blk w B T L) (i : Nat) (v : Value) : Blk (w.setCell ⟨B, i, none⟩ v) B T (L.set i v) := by
 have hlt := h.lt
 unfold Blk at h ⊢
 have h' : w.heap[B] = .cells L.toArray T (0, 0) := by simpa [Array.getElem?_eq_getElem hlt] using h
 show (w.heap.modify B _)[B]? = _
 rw [Array.getElem?_eq_getElem (by simpa using hlt), Array.getElem_modify_self, h']
 simp
theorem Blk.other {w : World} {B : Nat} {T : TypeId} {L : List Value} (h : Blk w B T L) {a : Addr} (ha : a.block ≠ B) (v : Value) : Blk (w.setCell a v) B T L := by
 unfold Blk at h ⊢; rw [Below.heap_setCell _ _ _ _ (fun e => ha e.symm)]; exact h
theorem Blk.alloc {w : World} {B : Nat} {T : TypeId} {L : List Value} (h : Blk w B T L) (o : Obj) : Blk (w.alloc o) B T L := by
 have hlt := h.lt
 unfold Blk at h ⊢; rw [Below.heap_alloc _ _ _ hlt]; exact h
theorem Blk.drewN {w : World} {B : Nat} {T : TypeId} {L : List Value} (h : Blk w B T L) (n : Nat) : Blk (w.drewN n) B T L := h
theorem Blk.drew {w : World} {B : Nat} {T : TypeId} {L : List Value} (h : Blk w B T L) : Blk w.drew B T L := h
theorem Blk.grown {w w' : World} {B : Nat} {T : TypeId} {L : List Value} {row : Option Nat} (h : Blk w B T L) (hg : w.grownBy w' row) (hr : some B ≠ row) : Blk w' B T L := by
 have hlt := h.lt
 unfold Blk at h ⊢; rw [hg.block B hlt hr]; exact h
theorem Blk.new (w : World) (L : List Value) (T : TypeId) : Blk (w.alloc (.cells L.toArray T)) w.heap.size T L := by
 show (w.heap.push _)[w.heap.size]? = _
 simp
theorem gb_refl (w : World) (row : Option Nat) : w.grownBy w row := ⟨rfl, rfl, rfl, Nat.le_refl _, fun _ _ _ => rfl⟩
theorem gb_trans {a b c : World} {row : Option Nat} (h : a.grownBy b row) (k : b.grownBy c row) : a.grownBy c row :=
 ⟨k.os.trans h.os, k.tape.trans h.tape, k.output.trans h.output, Nat.le_trans h.size k.size, fun i hi hr => (k.block i (Nat.lt_of_lt_of_le hi h.size) hr).trans (h.block i hi hr)⟩
theorem gb_row {a b : World} (h : a.grownBy b none) (row : Option Nat) : a.grownBy b row :=
 ⟨h.os, h.tape, h.output, h.size, fun i hi _ => h.block i hi (by simp)⟩
theorem gb_then {a b c : World} {B : Nat} {row : Option Nat} (h : a.grownBy b row) (k : b.grownBy c (some B)) (hB : a.heap.size ≤ B) : a.grownBy c row :=
 ⟨k.os.trans h.os, k.tape.trans h.tape, k.output.trans h.output, Nat.le_trans h.size k.size, fun i hi hr => (k.block i (Nat.lt_of_lt_of_le hi h.size) (by intro e; cases e; omega)).trans (h.block i hi hr)⟩
theorem gb_alloc {a w : World} {row : Option Nat} (h : a.grownBy w row) (o : Obj) : a.grownBy (w.alloc o) row := gb_trans h (World.grownBy_alloc w o row)
theorem gb_drewN {a w : World} {row : Option Nat} (h : a.grownBy w row) (n : Nat) : a.grownBy (w.drewN n) row := ⟨h.os, h.tape, h.output, h.size, h.block⟩
theorem gb_drew {a w : World} {row : Option Nat} (h : a.grownBy w row) : a.grownBy w.drew row := ⟨h.os, h.tape, h.output, h.size, h.block⟩
theorem gb_set {a w : World} {B : Nat} (h : a.grownBy w (some B)) (i : Nat) (v : Value) : a.grownBy (w.setCell ⟨B, i, none⟩ v) (some B) :=
 gb_trans h ⟨rfl, rfl, rfl, by simp [World.setCell], fun k _ hr => Below.heap_setCell _ _ _ _ (fun e => hr (by rw [e]))⟩
theorem gb_set_new {a w : World} {row : Option Nat} (h : a.grownBy w row) {p : Addr} (hp : a.heap.size ≤ p.block) (v : Value) : a.grownBy (w.setCell p v) row :=
 ⟨h.os, h.tape, h.output, by simp [World.setCell]; exact h.size, fun k hk hr => by rw [Below.heap_setCell _ _ _ _ (by omega)]; exact h.block k hk hr⟩
theorem gb_below {a b : World} (h : a.grownBy b none) : Below a.heap.size a b := ⟨h.os, h.tape, h.output, h.size, fun k hk => h.block k hk (by simp)⟩
theorem gb_cell {a b : World} {row : Option Nat} (h : a.grownBy b row) {p : Addr} (hp : p.block < a.heap.size) (hr : some p.block ≠ row) : b.cell? p = a.cell? p := World.cell?_of_block (w := a) (h.block p.block hp hr)
theorem gb_setRow {a w : World} {row : Option Nat} (h : a.grownBy w row) {g : Nat} (hg : a.heap.size ≤ g) (cs : Array Value) : a.grownBy (w.setRow g cs) row :=
 ⟨h.os, h.tape, h.output, by simp; exact h.size, fun k hk hr => by rw [setRow_other _ _ _ _ (by omega)]; exact h.block k hk hr⟩
theorem gb_setRow' {a w : World} {g : Nat} (h : a.grownBy w (some g)) (cs : Array Value) : a.grownBy (w.setRow g cs) (some g) :=
 ⟨h.os, h.tape, h.output, by simp; exact h.size, fun k hk hr => by rw [setRow_other _ _ _ _ (fun e => hr (by rw [e]))]; exact h.block k hk hr⟩
theorem Blk.row {w : World} {B : Nat} {T : TypeId} {L : List Value} (h : Blk w B T L) (L' : List Value) : Blk (w.setRow B L'.toArray) B T L' := setRow_heap _ _ _ _ _ _ h
theorem Blk.rowOther {w : World} {B : Nat} {T : TypeId} {L : List Value} (h : Blk w B T L) {g : Nat} (hg : g ≠ B) (cs : Array Value) : Blk (w.setRow g cs) B T L := by
 unfold Blk at h ⊢; rw [setRow_other _ _ _ _ (fun e => hg e.symm)]; exact h
def putN (L : List Value) (o : Nat) (f : Nat → Value) : Nat → List Value
 | 0 => L
 | k + 1 => (putN L o f k).set (o + k) (f k)
theorem putN_length (L : List Value) (o : Nat) (f : Nat → Value) (k : Nat) : (putN L o f k).length = L.length := by
 induction k with
 | zero => rfl
 | succ k ih => simp [putN, ih]
theorem putN_get (L : List Value) (o : Nat) (f : Nat → Value) (k i : Nat) (hk : o + k ≤ L.length) : (putN L o f k)[i]? = if o ≤ i ∧ i < o + k then some (f (i - o)) else L[i]? := by
 induction k with
 | zero => simp [putN]; omega
 | succ k ih =>
  have hl := putN_length L o f k
  rw [putN, List.getElem?_set, ih (by omega), hl]
  by_cases h : o + k = i
  ·subst h; simp only [if_true]; rw [if_pos (by omega), if_pos (by omega)]; congr 2; omega
  ·rw [if_neg h]
   by_cases h2 : o ≤ i ∧ i < o + k
   ·rw [if_pos h2, if_pos (by omega)]
   ·rw [if_neg h2, if_neg (by omega)]
theorem putN_is (L : List Value) (o : Nat) (f : Nat → Value) (k : Nat) (hk : o + k ≤ L.length) : putN L o f k = L.take o ++ (List.range k).map f ++ L.drop (o + k) := by
 apply List.ext_getElem?
 intro i
 rw [putN_get L o f k i hk]
 by_cases h1 : i < o
 ·rw [if_neg (by omega), List.append_assoc, List.getElem?_append_left (by simp; omega), List.getElem?_take, if_pos h1]
 ·by_cases h2 : i < o + k
  ·rw [if_pos (by omega), List.append_assoc, List.getElem?_append_right (by simp; omega), List.getElem?_append_left (by simp; omega)]
   simp [Nat.min_eq_left (show o ≤ L.length by omega), show i - o < k by omega]
  ·rw [if_neg (by omega), List.getElem?_append_right (by simp; omega)]
   simp [Nat.min_eq_left (show o ≤ L.length by omega)]
   congr 1; omega
end
section
open Go.RowKit
namespace Ow
def u8N (n : Nat) : Value := .int .u8 (n : Int)
structure BytesAt (w : World) (B : Nat) (a : Option Addr) (cap : Nat) (l : List Nat) : Prop where
 lim : B ≤ w.heap.size
 fits : l.length ≤ cap
 top : cap < 9223372036854775808
 byte : ∀ i, l.getD i 0 < 256
 cells : l.length = 0 ∨ ∃ pb po, a = some ⟨pb, po, none⟩ ∧ pb < B ∧ ∀ i, i < l.length → w.cell? ⟨pb, po + i, none⟩ = some (u8N (l.getD i 0))
theorem BytesAt.kept {w w' : World} {B cap : Nat} {a : Option Addr} {l : List Nat} (h : BytesAt w B a cap l) {row : Option Nat} (hg : w.grownBy w' row) (hr : ∀ r, row = some r → B ≤ r) : BytesAt w' B a cap l := by
 refine ⟨Nat.le_trans h.lim hg.size, h.fits, h.top, h.byte, ?_⟩
 rcases h.cells with h0 | ⟨pb, po, ha, hlt, hc⟩
 ·exact Or.inl h0
 ·exact Or.inr ⟨pb, po, ha, hlt, fun i hi => by rw [gb_cell hg (p := ⟨pb, po + i, none⟩) (Nat.lt_of_lt_of_le hlt h.lim) (fun e => by have := hr _ e.symm; simp at this; omega)]; exact hc i hi⟩
theorem BytesAt.stay {w w' : World} {B cap : Nat} {a : Option Addr} {l : List Nat} (h : BytesAt w B a cap l) (hg : w.grownBy w' none) : BytesAt w' B a cap l := h.kept hg (fun r e => by cases e)
theorem u8_getD {l : List Nat} {i : Nat} (h : i < l.length) : (l.map u8N)[i]? = some (u8N (l.getD i 0)) := by
 rw [List.getElem?_map, List.getElem?_eq_getElem h, List.getD_eq_getElem?_getD, List.getElem?_eq_getElem h]; rfl
theorem blk_at (w : World) {B : Nat} (L : List Value) (T : TypeId) (h : w.heap.size = B) : Blk (w.alloc (.cells L.toArray T)) B T L := h ▸ Blk.new w L T
theorem blk_bytes {w : World} {N B n cap : Nat} {T : TypeId} {l : List Nat} {tl : List Value} (h : Blk w N T (l.map u8N ++ tl)) (hl : l.length = n) (hc : n ≤ cap) (ht : cap < 9223372036854775808) (hb : ∀ i, l.getD i 0 < 256) (hB : N < B) (hw : B ≤ w.heap.size) :
  BytesAt w B (some ⟨N, 0, none⟩) cap l := by
 subst hl
 refine ⟨hw, hc, ht, hb, Or.inr ⟨N, 0, rfl, hB, fun i hi => ?_⟩⟩
 rw [Nat.zero_add]
 apply h.cell
 rw [List.getElem?_append_left (by simpa using hi)]
 exact u8_getD hi
theorem info_u8 : ∃ i z, Tryz.prog.info? 5 = some i ∧ i.zero = some z ∧ i.size = 1 ∧ i.bytes = 1 ∧ z.cells.size = 1 := by
 have h : (Tryz.prog.info? 5).map (fun i => (i.zero.map (·.cells.size), i.size, i.bytes)) = some (some 1, 1, 1) := by kernel_rfl
 cases hi : Tryz.prog.info? 5 with
 | none => rw [hi] at h; cases h
 | some i =>
  rw [hi] at h
  simp only [Option.map_some, Option.some.injEq, Prod.mk.injEq] at h
  cases hz : i.zero with
  | none => rw [hz] at h; cases h.1
  | some z => rw [hz] at h; exact ⟨i, z, rfl, hz, h.2.1, h.2.2, by simpa using h.1⟩
theorem append_u8 (w : World) (base n m c : Nat) (v : Value) (xs news : List Value) (ad : Addr) (hown : w.ownsRow base 5 1 v n xs) (hl : news.length = m) (hnews : ∀ j u, news[j]? = some u → w.cell? (ad.add j) = some u) (h1 : ∀ u ∈ news, u.oneCell' = true)
  (hn : (n + m) * 1 ≤ 140737488355328) (hbase : base ≤ w.heap.size) :
  ∃ v' w', (Builtin.append_ #[22, 22] 22 #[v, .slice (some ad) m c]).run Tryz.prog w = .ok v' w' ∧ w'.ownsRow base 5 1 v' (n + m) (xs ++ news) ∧ w.grownBy w' v.ownBlock := by
 obtain ⟨i, z, hi, hz, hs, hb, hc⟩ := info_u8
 obtain ⟨v', w', hr, ho, hg, _⟩ := run_append_own w base 22 22 5 i z 1 1 (P := Tryz.prog) Tryz.underlying22 hi hz hs hb hc (by decide) v n xs hown ad m c news (by omega) hnews h1 (by unfold maxLen; omega) hn hbase
 exact ⟨v', w', hr, ho, hg⟩
theorem gb_own {w0 w w' : World} {base e n : Nat} {v : Value} {xs : List Value} (h : w0.grownBy w none) (ho : w.ownsRow base e 1 v n xs) (hb : w0.heap.size ≤ base) (hg : w.grownBy w' v.ownBlock) : w0.grownBy w' none :=
 ⟨hg.os.trans h.os, hg.tape.trans h.tape, hg.output.trans h.output, Nat.le_trans h.size hg.size, fun k hk _ => (hg.block k (Nat.lt_of_lt_of_le hk h.size) (fun e => by have := (ho.lt k e.symm).1; omega)).trans (h.block k hk (by simp))⟩
theorem own_some {w : World} {base e n : Nat} {v : Value} {xs : List Value} (h : w.ownsRow base e 1 v n xs) (hn : 0 < n) : ∃ g c, v = .slice (some ⟨g, 0, none⟩) n c ∧ base ≤ g ∧ n ≤ c ∧ c ≤ maxLen ∧ g < w.heap.size := by
 rcases h.2 with ⟨_, h0⟩ | ⟨g, c, cur, rfl, hb, hg, hnc, hcm, _⟩
 ·omega
 ·exact ⟨g, c, rfl, hb, hnc, hcm, lt_of_block hg⟩
theorem own_cell {w : World} {base e n g c : Nat} {xs : List Value} (h : w.ownsRow base e 1 (.slice (some ⟨g, 0, none⟩) n c) n xs) {j : Nat} {u : Value} (hu : xs[j]? = some u) : w.cell? ⟨g, j, none⟩ = some u := by
 have hl : xs.length = n := by have := h.1; omega
 have hj : j < n := by
  rcases Nat.lt_or_ge j n with h' | h'
  ·exact h'
  ·rw [List.getElem?_eq_none (by omega)] at hu; cases hu
 rw [h.cellAt j (by omega)]; exact hu
theorem wpList_append_run {P : Program} {w : World} {ops : Array Oper} {rest : List Oper} {o : Oper} {a : Act} {Q : Exit → Act → World → Prop} (hgd : o.guard = none) (s x : Operand) (t : TypeId)
  (ho : o.op = .call { callee := .builtin .append, args := #[s, x], argTypes := #[t, t] }) (ht : o.type = t) (v y : Value) (hs : a.eval s = v) (hx : a.eval x = y) (v' : Value) (w' : World)
  (hr : (Builtin.append_ #[t, t] t #[v, y]).run P w = .ok v' w') (h : wpList P ops Q rest (a.put o.dst v') w') : wpList P ops Q (o :: rest) a w := by
 refine wpList_plain hgd fun K hK => ?_
 rw [← ht] at hr
 unfold Oper.wp
 simp [execOp, ho, resolve, invoke, builtin, hs, hx, ← ht, hr, Result.andThen]
 exact hK _ _ h
theorem append_none (w : World) (base n c : Nat) (v : Value) (xs : List Value) (hown : w.ownsRow base 5 1 v n xs) :
  (Builtin.append_ #[22, 22] 22 #[v, .slice none 0 c]).run Tryz.prog w = .ok v w := by
 obtain ⟨i, z, hi, hz, hs, hb, hc⟩ := info_u8
 rcases hown.2 with ⟨rfl, rfl⟩ | ⟨g, cap, cur, rfl, _, _, hnc, _⟩
 ·simp [Builtin.append_, run_underlying Tryz.underlying22, sizeOf, typeInfo, hi, Builtin.lenOf, Builtin.firstCells]
 ·simp [Builtin.append_, run_underlying Tryz.underlying22, sizeOf, typeInfo, hi, Builtin.lenOf, Builtin.firstCells, hnc, storeCells]
theorem append_bytes_fits (w : World) (base g n0 c B cap n : Nat) (xs : List Value) (a : Option Addr) (p : List Nat) (hown : w.ownsRow base 5 1 (.slice (some ⟨g, 0, none⟩) n0 c) n0 xs) (hn : p.length = n) (hP : BytesAt w B a cap p) (hroom : n0 + n ≤ c) :
  ∃ w', (Builtin.append_ #[22, 22] 22 #[.slice (some ⟨g, 0, none⟩) n0 c, .slice a n cap]).run Tryz.prog w = .ok (.slice (some ⟨g, 0, none⟩) (n0 + n) c) w' ∧ w'.ownsRow base 5 1 (.slice (some ⟨g, 0, none⟩) (n0 + n) c) (n0 + n) (xs ++ p.map u8N) ∧ w.grownBy w' (some g) := by
 subst hn
 obtain ⟨i, z, hi, hz, hs, hb, hc⟩ := info_u8
 rcases a with _ | ad
 ·have h0 : p.length = 0 := by
   rcases hP.cells with h | ⟨_, _, h, _⟩
   ·exact h
   ·cases h
  obtain rfl : p = [] := List.eq_nil_of_length_eq_zero h0
  exact ⟨w, append_none w base n0 cap _ xs hown, by simpa using hown, gb_refl _ _⟩
 ·refine run_append_fits w base 22 22 5 i 1 (P := Tryz.prog) Tryz.underlying22 hi hs g n0 c xs hown ad p.length cap (p.map u8N) (by simp) (fun j u hu => ?_) (fun u hu => ?_) hroom
  ·rcases hP.cells with h | ⟨pb, po, h, _, hc⟩
   ·obtain rfl : p = [] := List.eq_nil_of_length_eq_zero h
    simp at hu
   ·cases h
    have hj : j < p.length := by
     rcases Nat.lt_or_ge j p.length with h | h
     ·exact h
     ·rw [List.getElem?_eq_none (by simpa using h)] at hu; cases hu
    have hadd : (⟨pb, po, none⟩ : Addr).add j = ⟨pb, po + j, none⟩ := by unfold Addr.add; split <;> simp_all
    rw [hadd, hc j hj, ← hu, u8_getD hj]
  ·obtain ⟨x, _, rfl⟩ := List.mem_map.1 hu
   rfl
theorem append_bytes (w : World) (base n0 B cap n : Nat) (v : Value) (xs : List Value) (a : Option Addr) (p : List Nat) (hown : w.ownsRow base 5 1 v n0 xs) (hn : p.length = n) (hP : BytesAt w B a cap p)
  (hb : n0 + n ≤ 140737488355328) (hbase : base ≤ w.heap.size) :
  ∃ v' w', (Builtin.append_ #[22, 22] 22 #[v, .slice a n cap]).run Tryz.prog w = .ok v' w' ∧ w'.ownsRow base 5 1 v' (n0 + n) (xs ++ p.map u8N) ∧ w.grownBy w' v.ownBlock := by
 subst hn
 rcases a with _ | ad
 ·have h0 : p.length = 0 := by
   rcases hP.cells with h | ⟨_, _, h, _⟩
   ·exact h
   ·cases h
  obtain rfl : p = [] := List.eq_nil_of_length_eq_zero h0
  exact ⟨v, w, append_none w base n0 cap _ xs hown, by simpa using hown, gb_refl _ _⟩
 ·refine append_u8 w base n0 p.length cap v xs (p.map u8N) ad hown (by simp) (fun j u hu => ?_) (fun u hu => ?_) (by omega) hbase
  ·rcases hP.cells with h | ⟨pb, po, h, _, hc⟩
   ·obtain rfl : p = [] := List.eq_nil_of_length_eq_zero h
    simp at hu
   ·cases h
    have hj : j < p.length := by
     rcases Nat.lt_or_ge j p.length with h | h
     ·exact h
     ·rw [List.getElem?_eq_none (by simpa using h)] at hu; cases hu
    have hadd : (⟨pb, po, none⟩ : Addr).add j = ⟨pb, po + j, none⟩ := by unfold Addr.add; split <;> simp_all
    rw [hadd, hc j hj, ← hu, u8_getD hj]
  ·obtain ⟨x, _, rfl⟩ := List.mem_map.1 hu
   rfl
theorem append_byte_fits (w : World) (base g n0 c x : Nat) (xs : List Value) (hx : x < 256) (hown : w.ownsRow base 5 1 (.slice (some ⟨g, 0, none⟩) n0 c) n0 xs) (hroom : n0 + 1 ≤ c) :
  ∃ w', (Builtin.append_ #[22, 22] 22 #[.slice (some ⟨g, 0, none⟩) n0 c, .slice (some ⟨w.heap.size, 0, none⟩) 1 1]).run Tryz.prog (w.alloc (.cells #[u8N x] 5)) = .ok (.slice (some ⟨g, 0, none⟩) (n0 + 1) c) w' ∧ w'.ownsRow base 5 1 (.slice (some ⟨g, 0, none⟩) (n0 + 1) c) (n0 + 1) (xs ++ [u8N x]) ∧ w.grownBy w' (some g) := by
 have hb := Blk.new w [u8N x] 5
 have hp : BytesAt (w.alloc (.cells #[u8N x] 5)) (w.heap.size + 1) (some ⟨w.heap.size, 0, none⟩) 1 [x] :=
  blk_bytes (l := [x]) (n := 1) (tl := []) hb rfl (by omega) (by omega) (fun i => by cases i <;> simp; omega) (by omega) (by simp)
 obtain ⟨w', hr, ho, hg⟩ := append_bytes_fits (w.alloc (.cells #[u8N x] 5)) base g n0 c (w.heap.size + 1) 1 1 xs _ [x] (hown.alloc _) rfl hp hroom
 exact ⟨w', hr, ho, gb_trans (gb_alloc (gb_refl _ _) _) hg⟩
set_option maxRecDepth 100000 in
theorem slice_from (a : Option Addr) (n cap lo : Nat) (h : lo ≤ n) :
  ∃ a', (∀ w, (Instr.slice 22 (.slice a n cap) (some (.int .i64 (lo : Int))) none none).run Tryz.prog w = .ok (.slice a' (n - lo) (cap - lo)) w) ∧ (lo < cap → ∀ pb po, a = some ⟨pb, po, none⟩ → a' = some ⟨pb, po + lo, none⟩) := by
 obtain ⟨j, hj, hs⟩ : ∃ j, Tryz.prog.info? (Tryz.prog.elem 22) = some j ∧ j.size = 1 := by
  have h1 : (Tryz.prog.info? (Tryz.prog.elem 22)).map (·.size) = some 1 := by kernel_rfl
  cases hq : Tryz.prog.info? (Tryz.prog.elem 22) with
  | none => rw [hq] at h1; cases h1
  | some j => rw [hq] at h1; exact ⟨j, rfl, by simpa using h1⟩
 refine ⟨if cap = lo then a else a.map (·.add lo), fun w => ?_, ?_⟩
 ·rw [run_slice_l w 22 a n cap Tryz.underlying22 .i64 _ (by omega) (by omega), Int.toNat_natCast]
  simp [sizeOf, typeInfo, hj, hs, sliced]
 ·intro hlt pb po e
  rw [if_neg (by omega), e]
  simp [Addr.add]
end Ow
end
section
open Go.RowKit Ow
namespace Fg
def AllAt (a : Act) : Nat → List Value → Prop
 | _, [] => True
 | i, v :: r => a.tmps.getD i undef = v ∧ AllAt a (i + 1) r
theorem allAt_get {a : Act} : ∀ (vs : List Value) (i k : Nat) (v : Value), AllAt a i vs → vs[k]? = some v → a.tmps.getD (i + k) undef = v := by
 intro vs
 induction vs with
 | nil => intro i k v _ h; simp at h
 | cons x r ih =>
  intro i k v h hk
  cases k with
  | zero => simp at hk; subst hk; exact h.1
  | succ k => have := ih (i + 1) k v h.2 (by simpa using hk); rwa [show i + (k + 1) = i + 1 + k by omega]
theorem frame_is {a : Act} {vs : List Value} (hs : a.tmps.size = vs.length) (h : AllAt a 0 vs) (hd : a.defers = []) : a = { tmps := vs.toArray, defers := [] } := by
 have ht : a.tmps = vs.toArray := by
  apply Array.ext_getElem?
  intro i
  by_cases hi : i < a.tmps.size
  ·have h2 : i < vs.length := by omega
   have := allAt_get vs 0 i vs[i] h (List.getElem?_eq_getElem h2)
   rw [Nat.zero_add] at this
   simp [hi] at this
   rw [Array.getElem?_eq_getElem hi, this]
   simp [h2]
  ·rw [Array.getElem?_eq_none (by omega), Array.getElem?_eq_none (by simp; omega)]
 cases a
 simp at ht hd
 rw [ht, hd]
structure It where
 p : Value → World → Prop
 m : ∀ v w w', p v w → w.grownBy w' none → p v w'
def It.any : It := ⟨fun _ _ => True, fun _ _ _ _ _ => trivial⟩
def It.val (x : Value) : It := ⟨fun v _ => v = x, fun _ _ _ h _ => h⟩
def its (L : List It) (d : Nat) (v : Value) (w : World) : Prop := (L.getD d .any).p v w
theorem its_grown {L : List It} {w w' : World} (hg : w.grownBy w' none) (d : Nat) (v : Value) (h : its L d v w) : its L d v w' := (L.getD d .any).m _ _ _ h hg
section
variable {P : Program} {ops : Array Oper} {Q : Exit → Act → World → Prop} {L : List It} {w0 : World} {a0 : Act}
end
end Fg
end
section
open Go Go.RowKit
theorem Blk.range {w : World} {B : Nat} {T : TypeId} {L : List Value} (h : Blk w B T L) (o : Nat) (cs : List Value) (hL : (L.drop o).take cs.length = cs) : w.rangeAt B o cs := fun j v hv => by
 have hj : j < cs.length := (List.getElem?_eq_some_iff.1 hv).1
 refine h.cell ?_
 rw [← hL, List.getElem?_take_of_lt hj, List.getElem?_drop] at hv
 exact hv
theorem Blk.there {w : World} {B : Nat} {T : TypeId} {L : List Value} (h : Blk w B T L) (o n : Nat) (hn : o + n ≤ L.length) : w.there B o n := fun j hj => by
 have hlt : o + j < L.length := by omega
 exact ⟨by rw [h.cell (List.getElem?_eq_getElem hlt)]; rfl, h.free _⟩
def over : List Value → Nat → List Value → List Value
 | L, _, [] => L
 | L, o, v :: r => over (L.set o v) (o + 1) r
theorem over_length : ∀ (cs L : List Value) (o : Nat), (over L o cs).length = L.length
 | [], _, _ => rfl
 | v :: r, L, o => by rw [over, over_length r]; simp
theorem over_eq : ∀ (cs L : List Value) (o : Nat), o + cs.length ≤ L.length → over L o cs = L.take o ++ cs ++ L.drop (o + cs.length)
 | [], L, o, _ => by rw [over]; simp
 | v :: r, L, o, h => by
  have hl : o < L.length := by simp at h; omega
  rw [over, over_eq r (L.set o v) (o + 1) (by simp at h ⊢; omega)]
  have e1 : (L.set o v).take (o + 1) = L.take o ++ [v] := by
   rw [List.take_set, List.take_succ_eq_append_getElem hl, List.set_append_right _ _ (by simp; omega)]
   simp [Nat.min_eq_left (Nat.le_of_lt hl)]
  have e2 : (L.set o v).drop (o + 1 + r.length) = L.drop (o + (v :: r).length) := by
   rw [List.drop_set_of_lt (by omega), List.length_cons]
   congr 1
   omega
  rw [e1, e2]
  simp
theorem over_all (cs L : List Value) (h : L.length = cs.length) : over L 0 cs = cs := by
 rw [over_eq cs L 0 (by omega)]
 simp [List.drop_eq_nil_of_le (show L.length ≤ cs.length by omega)]
theorem Blk.setCells : ∀ {cs : List Value} {w : World} {B : Nat} {T : TypeId} {L : List Value} (_ : Blk w B T L) (o : Nat), Blk (w.setCells B o cs) B T (over L o cs)
 | [], _, _, _, _, h, _ => h
 | v :: r, w, B, T, L, h, o => by
  rw [World.setCells]
  exact Blk.setCells (cs := r) (h.set o v) (o + 1)
theorem Blk.setAll {cs : List Value} {w : World} {B : Nat} {T : TypeId} {L : List Value} (h : Blk w B T L) (hl : L.length = cs.length) : Blk (w.setCells B 0 cs) B T cs := by
 have := h.setCells (cs := cs) 0
 rwa [over_all cs L hl] at this
theorem Blk.setCells_other : ∀ {cs : List Value} {w : World} {B C : Nat} {T : TypeId} {L : List Value} (_ : Blk w B T L) (o : Nat) (_ : C ≠ B), Blk (w.setCells C o cs) B T L
 | [], _, _, _, _, _, h, _, _ => h
 | v :: r, w, B, C, T, L, h, o, hne => by
  rw [World.setCells]
  exact Blk.setCells_other (cs := r) (h.other (a := ⟨C, o, none⟩) hne v) (o + 1) hne
theorem gb_setCells : ∀ {cs : List Value} {a w : World} {B : Nat} (_ : a.grownBy w (some B)) (o : Nat), a.grownBy (w.setCells B o cs) (some B)
 | [], _, _, _, h, _ => h
 | v :: r, a, w, B, h, o => by
  rw [World.setCells]
  exact gb_setCells (cs := r) (gb_set h o v) (o + 1)
theorem gb_setCells_new : ∀ {cs : List Value} {a w : World} {row : Option Nat} {B : Nat} (_ : a.grownBy w row) (_ : a.heap.size ≤ B) (o : Nat), a.grownBy (w.setCells B o cs) row
 | [], _, _, _, _, h, _, _ => h
 | v :: r, a, w, row, B, h, hB, o => by
  rw [World.setCells]
  exact gb_setCells_new (cs := r) (gb_set_new h (p := ⟨B, o, none⟩) hB v) hB (o + 1)
namespace Fg
def isDstTo (ops : Array Oper) (k d : Nat) : Bool := (List.range k).any fun j => (ops[j]?).bind (·.dst) == some d
def tailOk (ops : Array Oper) (k : Nat) : Bool := (List.range ops.size).all fun t => decide (t < k) || (List.range t).all fun j => (List.range (t + 1)).any fun i => decide (j < i) && ((ops[i]?).map fun o => waitsFor o j).getD false
def It.fresh (T : TypeId) (V : List Value) (n0 : Nat) : It := ⟨fun v w => ∃ N, v = .pointer (some ⟨N, 0, none⟩) ∧ n0 ≤ N ∧ Blk w N T V, fun _ _ _ ⟨N, e, hn, h⟩ hg => ⟨N, e, hn, h.grown hg (by simp)⟩⟩
def It.row (T : TypeId) (V : List Value) (n n0 : Nat) : It := ⟨fun v w => ∃ N, v = .slice (some ⟨N, 0, none⟩) n n ∧ n0 ≤ N ∧ Blk w N T V, fun _ _ _ ⟨N, e, hn, h⟩ hg => ⟨N, e, hn, h.grown hg (by simp)⟩⟩
def It.Steady (S : Nat) (it : It) : Prop := ∀ v w w', it.p v w → w.grownBy w' (some S) → it.p v w'
theorem any_steady (S : Nat) : It.any.Steady S := fun _ _ _ _ _ => trivial
theorem val_steady (S : Nat) (x : Value) : (It.val x).Steady S := fun _ _ _ h _ => h
theorem fresh_steady {S n0 : Nat} (T : TypeId) (V : List Value) (h : S < n0) : (It.fresh T V n0).Steady S := fun _ _ _ ⟨N, e, hn, hb⟩ hg => ⟨N, e, hn, hb.grown hg (fun e => by have := Option.some.inj e; omega)⟩
theorem its_steady {S : Nat} {L : List It} (hL : ∀ it ∈ L, it.Steady S) {w w' : World} (hg : w.grownBy w' (some S)) (d : Nat) (v : Value) (h : its L d v w) : its L d v w' := by
 unfold its at *
 by_cases hd : d < L.length
 ·rw [List.getD_eq_getElem?_getD, List.getElem?_eq_getElem hd] at *
  exact hL _ (List.getElem_mem hd) v w w' h hg
 ·rw [List.getD_eq_getElem?_getD, List.getElem?_eq_none (by omega)] at *
  trivial
section
variable {P : Program} {ops : Array Oper} {Q : Exit → Act → World → Prop} {L : List It} {B : World → Prop} {a0 : Act} {ps : List Nat}
structure AtP (k : Nat) (ps : List Nat) (L : List It) (B : World → Prop) (a0 : Act) (ops : Array Oper) (o : Oper) (a : Act) (w : World) : Prop where
 base : B w
 size : a.tmps.size = a0.tmps.size
 ptrs : PtrsApart ps a w
 rest : ∀ d, isDstTo ops k d = false → a.tmps.getD d undef = a0.tmps.getD d undef
 dep : ∀ d, waits ops o d = true → its L d (a.tmps.getD d undef) w
def PostP (ps : List Nat) (L : List It) (B : World → Prop) (o : Oper) (a : Act) (w : World) (v : Value) (w' : World) : Prop :=
 B w' ∧ (∀ d u, its L d u w → its L d u w') ∧ PtrsApart ps (a.put o.dst v) w' ∧ ∀ d, o.dst = some d → its L d v w'
def StepP (k : Nat) (ps : List Nat) (P : Program) (Q : Exit → Act → World → Prop) (L : List It) (B : World → Prop) (a0 : Act) (ops : Array Oper) (i : Nat) (o : Oper) : Prop :=
 ∀ a w, AtP k ps L B a0 ops o a w → ops[i]? = some o → wpOp P ops Q i (fun a' w' => ∃ v, a' = a.put o.dst v ∧ PostP ps L B o a w v w') a w
theorem not_in {d : Nat} (h : (ps.all fun s => s != d) = true) : ∀ s ∈ ps, (some d : Option Tmp) ≠ some s := fun s hs e => by
 have := (List.all_eq_true.1 h) s hs
 rw [Option.some.inj e] at this
 simp at this
theorem stepValue {k i : Nat} {o : Oper} {d : Nat} (hd : o.dst = some d) (h : ∀ a w, AtP k ps L B a0 ops o a w → Wants ops o a ∧ ∃ v w', (execOp a.eval o).run P w = .ok (.value v) w' ∧ B w' ∧ (∀ d u, its L d u w → its L d u w') ∧ PtrsApart ps (a.put (some d) v) w' ∧ its L d v w') : StepP k ps P Q L B a0 ops i o := by
 intro a w hF hi
 obtain ⟨hw, v, w', hr, hB, hRG, hP, hG⟩ := h a w hF
 unfold Wants at hw
 unfold wpOp
 simp only [hi, hw, if_true]
 refine Or.inl ?_
 unfold Oper.wp
 rw [hr]
 exact ⟨v, rfl, hB, hRG, by rw [hd]; exact hP, fun d' e => by rw [hd] at e; cases e; exact hG⟩
theorem stepCall {k i : Nat} {o : Oper} {d : Nat} (hd : o.dst = some d)
  (h : ∀ a w, AtP k ps L B a0 ops o a w → Wants ops o a ∧ ∃ f args, (execOp a.eval o).run P w = .ok (.enter f args) w ∧ Calls P f args w fun e w' => ∃ v, e = .returned v ∧ B w' ∧ (∀ d u, its L d u w → its L d u w') ∧ PtrsApart ps (a.put (some d) v) w' ∧ its L d v w') : StepP k ps P Q L B a0 ops i o := by
 intro a w hF hi
 obtain ⟨hw, f, args, hr, hc⟩ := h a w hF
 unfold Wants at hw
 unfold wpOp
 simp only [hi, hw, if_true]
 refine Or.inl ?_
 unfold Oper.wp
 rw [hr]
 refine Calls.mono hc fun e w' he => ?_
 obtain ⟨v, rfl, hB, hRG, hP, hG⟩ := he
 exact ⟨v, rfl, hB, hRG, by rw [hd]; exact hP, fun d' e => by rw [hd] at e; cases e; exact hG⟩
theorem valueP {k i : Nat} {o : Oper} {d : Nat} (hBs : ∀ w w', B w → w.grownBy w' none → B w') (hd : o.dst = some d) (hps : (ps.all fun s => s != d) = true)
  (h : ∀ a w, AtP k ps L B a0 ops o a w → Wants ops o a ∧ ∃ v w', (execOp a.eval o).run P w = .ok (.value v) w' ∧ w.grownBy w' none ∧ its L d v w') : StepP k ps P Q L B a0 ops i o :=
 stepValue hd fun a w hF => by
  obtain ⟨hw, v, w', hr, hg, hG⟩ := h a w hF
  exact ⟨hw, v, w', hr, hBs _ _ hF.base hg, fun d u => its_grown hg d u, ptrs_put hF.ptrs hg.size (not_in hps), hG⟩
theorem allocP {k i : Nat} {o : Oper} {d : Nat} (hBs : ∀ w w', B w → w.grownBy w' none → B w') (hd : o.dst = some d) (hlt : d < a0.tmps.size)
  (h : ∀ a w, AtP k ps L B a0 ops o a w → Wants ops o a ∧ ∃ w', (execOp a.eval o).run P w = .ok (.value (.pointer (some ⟨w.heap.size, 0, none⟩))) w' ∧ w.grownBy w' none ∧ w.heap.size < w'.heap.size ∧ its L d (.pointer (some ⟨w.heap.size, 0, none⟩)) w') : StepP k ps P Q L B a0 ops i o :=
 stepValue hd fun a w hF => by
  obtain ⟨hw, w', hr, hg, hs, hG⟩ := h a w hF
  exact ⟨hw, _, w', hr, hBs _ _ hF.base hg, fun d u => its_grown hg d u, ptrs_new hF.ptrs hs (by rw [hF.size]; exact hlt), hG⟩
theorem callP {k i : Nat} {o : Oper} {d : Nat} (hBs : ∀ w w', B w → w.grownBy w' none → B w') (hd : o.dst = some d) (hps : (ps.all fun s => s != d) = true)
  (h : ∀ a w, AtP k ps L B a0 ops o a w → Wants ops o a ∧ ∃ f args, (execOp a.eval o).run P w = .ok (.enter f args) w ∧ Calls P f args w fun e w' => ∃ v, e = .returned v ∧ w.grownBy w' none ∧ its L d v w') : StepP k ps P Q L B a0 ops i o :=
 stepCall hd fun a w hF => by
  obtain ⟨hw, f, args, hr, hc⟩ := h a w hF
  refine ⟨hw, f, args, hr, hc.mono fun e w' he => ?_⟩
  obtain ⟨v, rfl, hg, hG⟩ := he
  exact ⟨v, rfl, hBs _ _ hF.base hg, fun d u => its_grown hg d u, ptrs_put hF.ptrs hg.size (not_in hps), hG⟩
theorem skippedP {k i : Nat} {o : Oper} {d : Nat} (hd : o.dst = some d) (hps : (ps.all fun s => s != d) = true) (hG : ∀ w, its L d undef w)
  (h : ∀ a w, AtP k ps L B a0 ops o a w → Region.wanted o (yielded ops a.tmps) = false) : StepP k ps P Q L B a0 ops i o := by
 intro a w hF hi
 have hw := h a w hF
 unfold wpOp
 simp only [hi, hw]
 exact ⟨undef, rfl, hF.base, fun _ _ h => h, ptrs_put hF.ptrs (Nat.le_refl _) (fun s hs e => not_in hps s hs (hd ▸ e)), fun d' e => by rw [hd] at e; cases e; exact hG w⟩
structure FlowS (ps : List Nat) (L : List It) (B : World → Prop) (a0 : Act) (ops : Array Oper) (k : Nat) (listed : Array Bool) (a : Act) (w : World) : Prop where
 base : B w
 size : a.tmps.size = a0.tmps.size
 defers : a.defers = a0.defers
 rest : ∀ d, isDstTo ops k d = false → a.tmps.getD d undef = a0.tmps.getD d undef
 slots : ∀ j oj d, ops[j]? = some oj → listed.getD j false = true → oj.dst = some d → its L d (a.tmps.getD d undef) w
 closed : ∀ j oj, ops[j]? = some oj → listed.getD j false = true → ∀ e ∈ oj.after, Region.binds .any e = true → listed.getD e.on false = true
 notk : ∀ j, k ≤ j → listed.getD j false = false
 ptrs : PtrsApart ps a w
def StepsS (k : Nat) (ps : List Nat) (P : Program) (Q : Exit → Act → World → Prop) (L : List It) (B : World → Prop) (a0 : Act) (ops : Array Oper) : Nat → List Oper → Prop
 | _, [] => True
 | i, o :: r => ((∃ d, o.dst = some d) ∧ StepP k ps P Q L B a0 ops i o) ∧ StepsS k ps P Q L B a0 ops (i + 1) r
theorem stepsS_get {k : Nat} : ∀ (l : List Oper) (i j : Nat) (o : Oper), StepsS k ps P Q L B a0 ops i l → l[j]? = some o → (∃ d, o.dst = some d) ∧ StepP k ps P Q L B a0 ops (i + j) o := by
 intro l
 induction l with
 | nil => intro i j o h hk; simp at hk
 | cons x r ih =>
  intro i j o h hk
  cases j with
  | zero => simp at hk; subst hk; exact h.1
  | succ j => have := ih (i + 1) j o h.2 (by simpa using hk); rwa [show i + (j + 1) = i + 1 + j by omega]
theorem inn {j : Nat} {oj : Oper} (hj : ops[j]? = some oj) : j < ops.size := by
 rcases Nat.lt_or_ge j ops.size with h' | h'
 ·exact h'
 ·rw [Array.getElem?_eq_none h'] at hj; cases hj
theorem tail_all {k t : Nat} {listed : Array Bool} (htl : tailOk ops k = true) (ht : k ≤ t) (hr : t ∈ Region.ready .any ops listed)
  (closed : ∀ j oj, ops[j]? = some oj → listed.getD j false = true → ∀ e ∈ oj.after, Region.binds .any e = true → listed.getD e.on false = true) : ∀ j, j < t → listed.getD j false = true := by
 obtain ⟨_, o, hoi, hall⟩ := mem_ready.1 hr
 have h1 := (List.all_eq_true.1 htl) t (List.mem_range.2 (inn hoi))
 simp only [Bool.or_eq_true, decide_eq_true_eq, Nat.not_lt.2 ht, false_or] at h1
 have go : ∀ n j, j < t → t - j ≤ n → listed.getD j false = true := by
  intro n
  induction n with
  | zero => intro j hj hn; omega
  | succ n ihn =>
   intro j hj hn
   have h2 := (List.all_eq_true.1 h1) j (List.mem_range.2 hj)
   obtain ⟨m, hm, h3⟩ := List.any_eq_true.1 h2
   simp only [Bool.and_eq_true, decide_eq_true_eq] at h3
   have hm' := List.mem_range.1 hm
   obtain ⟨hjm, h3⟩ := h3
   cases hg : ops[m]? with
   | none => rw [hg] at h3; cases h3
   | some om =>
    rw [hg] at h3
    simp only [Option.map_some, Option.getD_some] at h3
    obtain ⟨q, hq, hb⟩ := Array.any_eq_true.1 h3
    simp only [Bool.and_eq_true, beq_iff_eq] at hb
    by_cases hmt : m = t
    ·subst hmt
     rw [hg] at hoi
     cases hoi
     have := hall _ (Array.getElem_mem hq) hb.1
     rwa [hb.2] at this
    ·have := closed m _ hg (ihn m (by omega) (by omega)) _ (Array.getElem_mem hq) hb.1
     rwa [hb.2] at this
 exact fun j hj => go _ j hj (Nat.le_refl _)
theorem wpOp_of_list {k : Nat} {o : Oper} {r : List Oper} {a : Act} {w : World} (hk : ops[k]? = some o) (h : wpList P ops Q (o :: r) a w) : wpOp P ops Q k (wpList P ops Q r) a w := by
 unfold wpOp
 simp only [hk]
 exact h
theorem tail_any {k0 : Nat} (ht : topo ops = true) (htl : tailOk ops k0 = true) : ∀ (m k fuel : Nat) (listed : Array Bool) (a : Act) (w : World), k0 ≤ k → ops.size = k + m → m ≤ fuel → listed.size = ops.size →
  (∀ j, j < k → listed.getD j false = true) → (∀ j, k ≤ j → listed.getD j false = false) → wpList P ops Q (ops.toList.drop k) a w → wpAny P .any ops Q fuel listed a w := by
 intro m
 induction m with
 | zero =>
  intro k fuel listed a w hk hs hf hls hall hnot h
  have hd : ops.toList.drop k = [] := List.drop_eq_nil_of_le (by simp; omega)
  rw [hd] at h
  have hr : Region.ready .any ops listed = [] := by
   cases hc : Region.ready .any ops listed with
   | nil => rfl
   | cons x r =>
    obtain ⟨h0, o, hoi, _⟩ := mem_ready.1 (show x ∈ Region.ready .any ops listed by rw [hc]; exact List.mem_cons_self ..)
    have hx := hall x (by have := inn hoi; omega)
    have hlt : x < listed.size := by rw [hls]; exact inn hoi
    simp [hlt] at h0 hx
    rw [h0] at hx
    cases hx
  cases fuel with
  | zero => exact ⟨hr, h⟩
  | succ f => exact ⟨fun _ => h, fun i hi => by rw [hr] at hi; cases hi⟩
 | succ m ih =>
  intro k fuel listed a w hk hs hf hls hall hnot h
  obtain ⟨f, rfl⟩ : ∃ f, fuel = f + 1 := ⟨fuel - 1, by omega⟩
  have hks : k < ops.size := by omega
  have closed : ∀ j oj, ops[j]? = some oj → listed.getD j false = true → ∀ e ∈ oj.after, Region.binds .any e = true → listed.getD e.on false = true := by
   intro j oj hj hl e he hb
   have ht1 := (List.all_eq_true.1 ht) j (List.mem_range.2 (inn hj))
   rw [hj] at ht1
   simp only [Option.map_some, Option.getD_some] at ht1
   have ht2 := (Array.all_eq_true_iff_forall_mem.1 ht1) _ he
   simp only [hb, Bool.not_true, Bool.false_or, decide_eq_true_eq] at ht2
   have hjk : j < k := by
    rcases Nat.lt_or_ge j k with h' | h'
    ·exact h'
    ·rw [hnot j h'] at hl; cases hl
   exact hall _ (by omega)
  refine ⟨fun hr => ?_, fun i hi => ?_⟩
  ·have := all_listed ht hls hr k hks
   rw [hnot k (Nat.le_refl _)] at this
   cases this
  ·obtain ⟨h0, o, hoi, _⟩ := mem_ready.1 hi
   have hik : i = k := by
    rcases Nat.lt_trichotomy i k with h' | h' | h'
    ·have hx := hall i h'
     have hlt : i < listed.size := by rw [hls]; exact inn hoi
     simp [hlt] at h0 hx
     rw [h0] at hx
     cases hx
    ·exact h'
    ·have := tail_all htl (by omega) hi closed k h'
     rw [hnot k (Nat.le_refl _)] at this
     cases this
   subst hik
   have hd : ops.toList.drop i = o :: ops.toList.drop (i + 1) := by
    rw [List.drop_eq_getElem_cons (by simpa using hks)]
    congr 1
    rw [Array.getElem?_eq_getElem hks] at hoi
    simpa using Option.some.inj hoi
   rw [hd] at h
   refine wpOp_mono (fun a' w' h' => ?_) (wpOp_of_list hoi h)
   refine ih (i + 1) f _ a' w' (by omega) (by omega) (by omega) (by simpa using hls) (fun j hj => ?_) (fun j hj => ?_) h'
   ·by_cases e : i = j
    ·subst e
     have hlt : i < listed.size := by rw [hls]; exact hks
     simp [hlt]
    ·rw [getD_set_ne false e]; exact hall j (by omega)
   ·rw [getD_set_ne false (by omega)]; exact hnot j (by omega)
theorem flowS_any {k : Nat} (ht : topo ops = true) (ho : once (ops.extract 0 k) a0.tmps.size = true) (htl : tailOk ops k = true) (hk : k ≤ ops.size)
  (steps : StepsS k ps P Q L B a0 ops 0 (ops.toList.take k))
  (fin : ∀ a w, B w → a.tmps.size = a0.tmps.size → a.defers = a0.defers → (∀ d, isDstTo ops k d = false → a.tmps.getD d undef = a0.tmps.getD d undef) →
   (∀ d, isDstTo ops k d = true → its L d (a.tmps.getD d undef) w) → PtrsApart ps a w → wpList P ops Q (ops.toList.drop k) a w) :
  ∀ (fuel : Nat) (listed : Array Bool) (a : Act) (w : World), listed.size = ops.size → unlisted ops listed ≤ fuel → FlowS ps L B a0 ops k listed a w → wpAny P .any ops Q fuel listed a w := by
 have toTail : ∀ (fuel : Nat) (listed : Array Bool) (a : Act) (w : World), listed.size = ops.size → ops.size - k ≤ fuel → FlowS ps L B a0 ops k listed a w → (∀ j, j < k → listed.getD j false = true) → wpAny P .any ops Q fuel listed a w := by
  intro fuel listed a w hs hf hF hall
  refine tail_any ht htl (ops.size - k) k fuel listed a w (Nat.le_refl _) (by omega) hf hs hall hF.notk (fin a w hF.base hF.size hF.defers hF.rest (fun d hd => ?_) hF.ptrs)
  obtain ⟨j, hj, hb⟩ := List.any_eq_true.1 hd
  have hjk := List.mem_range.1 hj
  have hg : ops[j]? = some ops[j] := Array.getElem?_eq_getElem (by omega)
  rw [hg] at hb
  exact hF.slots j _ d hg (hall j hjk) (by simpa using hb)
 have hcount : ∀ (listed : Array Bool), (∀ j, k ≤ j → listed.getD j false = false) → listed.size = ops.size → ops.size - k ≤ unlisted ops listed := by
  intro listed hn hs
  unfold unlisted
  have hsub : (List.range' k (ops.size - k)).length ≤ ((List.range ops.size).filter fun i => !listed.getD i true).length := by
   have hp : List.Sublist (List.range' k (ops.size - k)) ((List.range ops.size).filter fun i => !listed.getD i true) := by
    have h1 : List.Sublist (List.range' k (ops.size - k)) (List.range ops.size) := by
     have e : List.range ops.size = List.range' 0 k ++ List.range' k (ops.size - k) := by
      rw [List.range_eq_range', show ops.size = k + (ops.size - k) by omega, ← List.range'_append_1]
      simp
     rw [e]
     exact List.sublist_append_right _ _
    have h2 := h1.filter fun i => !listed.getD i true
    have h3 : (List.range' k (ops.size - k)).filter (fun i => !listed.getD i true) = List.range' k (ops.size - k) := by
     rw [List.filter_eq_self]
     intro x hx
     have hx' := List.mem_range'_1.1 hx
     have := hn x hx'.1
     have hlt : x < listed.size := by omega
     simp [hlt] at this ⊢
     exact this
    rwa [h3] at h2
   exact hp.length_le
  simpa using hsub
 intro fuel
 induction fuel with
 | zero =>
  intro listed a w hs hu hF
  have hc := hcount listed hF.notk hs
  refine toTail 0 listed a w hs (by omega) hF (fun j hj => ?_)
  have hr : Region.ready .any ops listed = [] := by
   cases hc : Region.ready .any ops listed with
   | nil => rfl
   | cons x r =>
    have := unlisted_lt (ops := ops) (listed := listed) (i := x) (by rw [hc]; exact List.mem_cons_self ..)
    omega
  exact all_listed ht hs hr j (by omega)
 | succ fuel ih =>
  intro listed a w hs hu hF
  by_cases hdone : ∀ j, j < k → listed.getD j false = true
  ·have hc := hcount listed hF.notk hs
   exact toTail (fuel + 1) listed a w hs (by omega) hF hdone
  refine ⟨fun hr => ?_, fun i hi => ?_⟩
  ·exact absurd (fun j hj => all_listed ht hs hr j (by omega)) hdone
  obtain ⟨h0, o, hoi, hall⟩ := mem_ready.1 hi
  have hik : i < k := by
   rcases Nat.lt_or_ge i k with h' | h'
   ·exact h'
   ·exact absurd (fun j hj => tail_all htl h' hi hF.closed j (by omega)) hdone
  have hst := stepsS_get (ops.toList.take k) 0 i o steps (by rw [List.getElem?_take_of_lt hik, Array.getElem?_toList]; exact hoi)
  rw [Nat.zero_add] at hst
  obtain ⟨⟨d, hd⟩, hst⟩ := hst
  have hex : ∀ j, j < k → (ops.extract 0 k)[j]? = ops[j]? := fun j hj => by
   rw [Array.getElem?_extract_of_lt (by omega)]; simp
  have hat : AtP k ps L B a0 ops o a w := ⟨hF.base, hF.size, hF.ptrs, hF.rest, fun d hd => by
    obtain ⟨k, hk, hb⟩ := Array.any_eq_true.1 hd
    simp only [Bool.and_eq_true, beq_iff_eq] at hb
    have hl := hall _ (Array.getElem_mem hk) hb.1
    cases hx : ops[o.after[k].on]? with
    | none => rw [hx] at hb; cases hb.2
    | some oj => rw [hx] at hb; exact hF.slots _ oj d hx hl hb.2⟩
  refine wpOp_mono (fun a' w' h => ?_) (hst a w hat hoi)
  obtain ⟨v, rfl, hB, hRG, hPt, hG⟩ := h
  have hlt := unlisted_lt hi
  refine ih _ _ _ (by simpa using hs) (by omega) ⟨hB, ?_, ?_, ?_, ?_, ?_, ?_, hPt⟩
  ·rw [← hF.size]; cases o.dst <;> simp [Act.put]
  ·rw [← hF.defers]; cases o.dst <;> simp [Act.put]
  ·intro d hd
   rw [← hF.rest d hd]
   have hne : o.dst ≠ some d := by
    intro e
    have : isDstTo ops k d = true := List.any_eq_true.2 ⟨i, List.mem_range.2 hik, by rw [hoi]; simpa using e⟩
    rw [hd] at this
    cases this
   exact put_getD hne
  ·intro j oj d hj hl hd
   have hjk : j < k ∨ j = i := by
    by_cases e : i = j
    ·exact Or.inr e.symm
    ·rw [getD_set_ne false e] at hl
     rcases Nat.lt_or_ge j k with h' | h'
     ·exact Or.inl h'
     ·rw [hF.notk j h'] at hl; cases hl
   by_cases e : i = j
   ·subst e
    rw [hoi] at hj
    cases hj
    have hd2 := once_lt ho ((hex i hik).trans hoi) hd
    rw [← hF.size] at hd2
    have hG := hG _ hd
    rw [hd]
    simpa [Act.put, hd2] using hG
   ·rw [getD_set_ne false e] at hl
    have h1 := hF.slots j oj d hj hl hd
    have hv : (a.put o.dst v).tmps.getD d undef = a.tmps.getD d undef := by
     cases hod : o.dst with
     | none => rfl
     | some d' =>
      have := once_ne ho ((hex i hik).trans hoi) ((hex j (by omega)).trans hj) e hod
      rw [hd] at this
      simp [Act.put, Array.getElem?_setIfInBounds_ne (show d' ≠ d from fun e => this (by rw [e]))]
    rw [hv]
    exact hRG d _ h1
  ·intro j oj hj hl e he hb
   by_cases ei : i = j
   ·subst ei
    rw [hoi] at hj
    cases hj
    exact getD_set_true (hall e he hb)
   ·rw [getD_set_ne false ei] at hl
    exact getD_set_true (hF.closed j oj hj hl e he hb)
  ·intro j hj
   rw [getD_set_ne false (by omega)]; exact hF.notk j hj
theorem wp_region_tail {id : Nat} {w : World} (L : List It) (B : World → Prop) (k : Nat) (hB0 : B w.drew) (hm : P.follows .mixedOrders = true) (ht : topo ops = true) (ho : once (ops.extract 0 k) a0.tmps.size = true) (htl : tailOk ops k = true) (hk : k ≤ ops.size) (hps : PtrsApart ps a0 w.drew)
  (steps : StepsS k ps P Q L B a0 ops 0 (ops.toList.take k))
  (fin : ∀ a w', B w' → a.tmps.size = a0.tmps.size → a.defers = a0.defers → (∀ d, isDstTo ops k d = false → a.tmps.getD d undef = a0.tmps.getD d undef) →
   (∀ d, isDstTo ops k d = true → its L d (a.tmps.getD d undef) w') → PtrsApart ps a w' → wpList P ops Q (ops.toList.drop k) a w') : (Code.region id ops true).wp P Q a0 w :=
 wp_region_any hm (flowS_any ht ho htl hk steps fin ops.size _ a0 _ (by simp) (by unfold unlisted; exact Nat.le_trans (List.length_filter_le _ _) (by simp))
  ⟨hB0, rfl, rfl, fun _ _ => rfl, fun j oj d _ hl _ => by
   by_cases h : j < ops.size <;> simp [h] at hl, fun j oj _ hl => by
   by_cases h : j < ops.size <;> simp [h] at hl, fun j _ => by
   by_cases h : j < ops.size <;> simp [h], hps⟩)
theorem list_of_wpOp {k : Nat} {o : Oper} {r : List Oper} {a : Act} {w : World} (hk : ops[k]? = some o) (h : wpOp P ops Q k (wpList P ops Q r) a w) : wpList P ops Q (o :: r) a w := by
 unfold wpOp at h
 simp only [hk] at h
 exact h
theorem wp_region_plain {id : Nat} {w : World} (L : List It) (B : World → Prop) (k : Nat) (hB0 : B w) (ht : topo ops = true) (ho : once (ops.extract 0 k) a0.tmps.size = true) (hk : k ≤ ops.size) (hps : PtrsApart ps a0 w)
  (steps : StepsS k ps P Q L B a0 ops 0 (ops.toList.take k))
  (fin : ∀ a w', B w' → a.tmps.size = a0.tmps.size → a.defers = a0.defers → (∀ d, isDstTo ops k d = false → a.tmps.getD d undef = a0.tmps.getD d undef) →
   (∀ d, isDstTo ops k d = true → its L d (a.tmps.getD d undef) w') → PtrsApart ps a w' → wpList P ops Q (ops.toList.drop k) a w') : (Code.region id ops false).wp P Q a0 w := by
 refine wp_region_list ?_
 have go : ∀ (m i : Nat) (a : Act) (w' : World), i + m = k → B w' → a.tmps.size = a0.tmps.size → a.defers = a0.defers → (∀ d, isDstTo ops k d = false → a.tmps.getD d undef = a0.tmps.getD d undef) →
   (∀ j oj d, j < i → ops[j]? = some oj → oj.dst = some d → its L d (a.tmps.getD d undef) w') → PtrsApart ps a w' → wpList P ops Q (ops.toList.drop i) a w' := by
  intro m
  induction m with
  | zero =>
   intro i a w' hi hg hs hdf hr hsl hpt
   have hi' : i = k := by omega
   subst hi'
   refine fin a w' hg hs hdf hr (fun d hd => ?_) hpt
   obtain ⟨j, hj, hb⟩ := List.any_eq_true.1 hd
   have hjk := List.mem_range.1 hj
   have hgj : ops[j]? = some ops[j] := Array.getElem?_eq_getElem (by omega)
   rw [hgj] at hb
   exact hsl j _ d hjk hgj (by simpa using hb)
  | succ m ih =>
   intro i a w' hi hg hs hdf hr hsl hpt
   have hik : i < k := by omega
   have hil : i < ops.size := by omega
   have hoi : ops[i]? = some ops[i] := Array.getElem?_eq_getElem hil
   have hst := stepsS_get (ops.toList.take k) 0 i ops[i] steps (by rw [List.getElem?_take_of_lt hik, Array.getElem?_toList]; exact hoi)
   rw [Nat.zero_add] at hst
   obtain ⟨⟨d, hd⟩, hst⟩ := hst
   have hex : ∀ j, j < k → (ops.extract 0 k)[j]? = ops[j]? := fun j hj => by
    rw [Array.getElem?_extract_of_lt (by omega)]; simp
   have hat : AtP k ps L B a0 ops ops[i] a w' := ⟨hg, hs, hpt, hr, fun d hd => by
     obtain ⟨q, hq, hb⟩ := Array.any_eq_true.1 hd
     simp only [Bool.and_eq_true, beq_iff_eq] at hb
     have ht1 := (List.all_eq_true.1 ht) i (List.mem_range.2 hil)
     rw [hoi] at ht1
     simp only [Option.map_some, Option.getD_some] at ht1
     have ht2 := (Array.all_eq_true_iff_forall_mem.1 ht1) _ (Array.getElem_mem hq)
     simp only [hb.1, Bool.not_true, Bool.false_or, decide_eq_true_eq] at ht2
     cases hx : ops[ops[i].after[q].on]? with
     | none => rw [hx] at hb; cases hb.2
     | some oj => rw [hx] at hb; exact hsl _ oj d ht2 hx hb.2⟩
   have hdr : ops.toList.drop i = ops[i] :: ops.toList.drop (i + 1) := by
    rw [List.drop_eq_getElem_cons (by simpa using hil)]
    simp
   rw [hdr]
   refine list_of_wpOp hoi (wpOp_mono (fun a' w'' h => ?_) (hst a w' hat hoi))
   obtain ⟨v, rfl, hB, hRG, hPt, hG⟩ := h
   refine ih (i + 1) _ _ (by omega) hB ?_ ?_ ?_ ?_ hPt
   ·rw [← hs]; cases ops[i].dst <;> simp [Act.put]
   ·rw [← hdf]; cases ops[i].dst <;> simp [Act.put]
   ·intro d hd
    rw [← hr d hd]
    have hne : ops[i].dst ≠ some d := by
     intro e
     have : isDstTo ops k d = true := List.any_eq_true.2 ⟨i, List.mem_range.2 hik, by rw [hoi]; simpa using e⟩
     rw [hd] at this
     cases this
    exact put_getD hne
   ·intro j oj d' hj hgj hd'
    by_cases e : i = j
    ·subst e
     rw [hoi] at hgj
     cases hgj
     have hd2 := once_lt ho ((hex i hik).trans hoi) hd'
     rw [← hs] at hd2
     have hG := hG _ hd'
     rw [hd']
     simpa [Act.put, hd2] using hG
    ·have h1 := hsl j oj d' (by omega) hgj hd'
     have hv : (a.put ops[i].dst v).tmps.getD d' undef = a.tmps.getD d' undef := by
      cases hod : ops[i].dst with
      | none => rfl
      | some d'' =>
       have := once_ne ho ((hex i hik).trans hoi) ((hex j (by omega)).trans hgj) e hod
       rw [hd'] at this
       simp [Act.put, Array.getElem?_setIfInBounds_ne (show d'' ≠ d' from fun e => this (by rw [e]))]
     rw [hv]
     exact hRG d' _ h1
 have := go k 0 a0 w (by omega) hB0 rfl rfl (fun _ _ => rfl) (fun j _ _ hj => by omega) hps
 simpa using this
theorem ptrs_undef {a : Act} {w : World} (h : (ps.all fun s => match a.tmps.getD s undef with | .pointer _ => false | _ => true) = true) : PtrsApart ps a w := fun s hs C e => by
 have := (List.all_eq_true.1 h) s hs
 rw [e] at this
 cases this
def ApartV (l : List Value) (w : World) : Prop := ∀ (i C : Nat), l[i]? = some (.pointer (some ⟨C, 0, none⟩)) → C < w.heap.size ∧ ∀ (j : Nat), j ≠ i → l[j]? ≠ some (.pointer (some ⟨C, 0, none⟩))
theorem ptrs_of {a : Act} {w : World} {l : List Value} (hl : l = ps.map fun s => a.tmps.getD s undef) (h : ApartV l w) : PtrsApart ps a w := by
 subst hl
 intro s hs C e
 obtain ⟨i, hi, rfl⟩ := List.mem_iff_getElem.1 hs
 have hg : (ps.map fun s => a.tmps.getD s undef)[i]? = some (.pointer (some ⟨C, 0, none⟩)) := by
  rw [List.getElem?_map, List.getElem?_eq_getElem hi, Option.map_some, e]
 refine ⟨(h i C hg).1, fun t ht hne e2 => ?_⟩
 obtain ⟨j, hj, rfl⟩ := List.mem_iff_getElem.1 ht
 refine (h i C hg).2 j (fun e3 => hne (by subst e3; rfl)) ?_
 rw [List.getElem?_map, List.getElem?_eq_getElem hj, Option.map_some, e2]
theorem apart_undef (l : List Value) (w : World) (h : (l.all fun v => match v with | .pointer _ => false | _ => true) = true) : ApartV l w := fun i C e => by
 have := (List.all_eq_true.1 h) _ (List.mem_of_getElem? e)
 cases this
theorem apart_one {N : Nat} {w : World} (h : N < w.heap.size) : ApartV [.pointer (some ⟨N, 0, none⟩)] w := fun i C e => by
 match i, e with
 | 0, e =>
  cases e
  refine ⟨h, fun j hj => ?_⟩
  match j, hj with
  | j + 1, _ => simp
theorem apart_three {A B C : Nat} {w : World} (a : A < w.heap.size) (b : B < w.heap.size) (c : C < w.heap.size) (ab : A ≠ B) (ac : A ≠ C) (bc : B ≠ C) : ApartV [.pointer (some ⟨A, 0, none⟩), .pointer (some ⟨B, 0, none⟩), .pointer (some ⟨C, 0, none⟩)] w := fun i X e => by
 match i, e with
 | 0, e =>
  cases e
  refine ⟨a, fun j hj => ?_⟩
  match j, hj with
  | 1, _ => simp <;> omega
  | 2, _ => simp <;> omega
  | j + 3, _ => simp
 | 1, e =>
  cases e
  refine ⟨b, fun j hj => ?_⟩
  match j, hj with
  | 0, _ => simp <;> omega
  | 2, _ => simp <;> omega
  | j + 3, _ => simp
 | 2, e =>
  cases e
  refine ⟨c, fun j hj => ?_⟩
  match j, hj with
  | 0, _ => simp <;> omega
  | 1, _ => simp <;> omega
  | j + 3, _ => simp
theorem ApartV.mono {l : List Value} {w w' : World} (h : ApartV l w) (hs : w.heap.size ≤ w'.heap.size) : ApartV l w' := fun i C e => ⟨Nat.lt_of_lt_of_le (h i C e).1 hs, (h i C e).2⟩
theorem apart_drew {l : List Value} {w : World} (h : ApartV l w) : ApartV l w.drew := h
theorem wpl_value {o : Oper} {r : List Oper} {a : Act} {w w' : World} {v : Value} (hg : o.guard = none) (hr : (execOp a.eval o).run P w = .ok (.value v) w') (h : wpList P ops Q r (a.put o.dst v) w') : wpList P ops Q (o :: r) a w := by
 refine wpList_plain hg fun K hK => ?_
 unfold Oper.wp
 rw [hr]
 exact hK _ _ h
theorem wpl_skip {o : Oper} {r : List Oper} {a : Act} {w w' : World} (hg : o.guard = none) (hd : o.dst = none) (hr : (execOp a.eval o).run P w = .ok .skip w') (h : wpList P ops Q r a w') : wpList P ops Q (o :: r) a w := by
 refine wpList_plain hg fun K hK => ?_
 unfold Oper.wp
 rw [hr]
 have e : a.put o.dst undef = a := by rw [hd]; rfl
 show K (a.put o.dst undef) w'
 rw [e]
 exact hK _ _ h
theorem wpl_call {o : Oper} {r : List Oper} {a : Act} {w : World} {f : FuncId} {args : Array Value} (hg : o.guard = none) (hr : (execOp a.eval o).run P w = .ok (.enter f args) w)
  (hc : Calls P f args w fun e w' => ∃ v, e = .returned v ∧ wpList P ops Q r (a.put o.dst v) w') : wpList P ops Q (o :: r) a w := by
 refine wpList_plain hg fun K hK => ?_
 unfold Oper.wp
 rw [hr]
 refine Calls.mono hc fun e w' he => ?_
 obtain ⟨v, rfl, h⟩ := he
 exact hK _ _ h
theorem run_load {ρ : Operand → Value} {o : Oper} {w : World} {T : TypeId} {x : Operand} {b off : Nat} {cs : List Value} {d : TypeDesc} (ho : o.op = .load T x) (hx : ρ x = .pointer (some ⟨b, off, none⟩)) (hc : w.rangeAt b off cs)
  (hu : P.underlying T = some d) (hd : d.isRow = true) (hi : (P.info? T).map (·.size) = some cs.length) : (execOp ρ o).run P w = .ok (.value (.agg cs.toArray)) w := by
 unfold execOp
 simp only [ho, hx, Instr.loadAt, Instr.sureAddr, Sem.run_bind, Sem.run_pure, Result.andThen_ok, run_loadVar_mid w b off T cs d hc hu hd hi]
theorem run_store {ρ : Operand → Value} {o : Oper} {w : World} {T : TypeId} {x y : Operand} {b off : Nat} {cs : List Value} (ho : o.op = .store T x y) (hx : ρ x = .pointer (some ⟨b, off, none⟩)) (hy : ρ y = .agg cs.toArray)
  (ht : w.there b off cs.length) (hi : (P.info? T).map (·.size) = some cs.length) (h1 : cs.all (·.oneCell') = true) : (execOp ρ o).run P w = .ok .skip (w.setCells b off cs) := by
 unfold execOp
 simp only [ho, hx, hy, Instr.storeAt, Instr.sureAddr, Sem.run_bind, Sem.run_pure, Result.andThen_ok, run_storeVar_mid w b off T cs.toArray (by simpa using ht) (by simpa using hi) (by simpa using h1)]
theorem run_move {ρ : Operand → Value} {o : Oper} {w : World} {x : Operand} {v : Value} (ho : o.op = .move x) (hx : ρ x = v) : (execOp ρ o).run P w = .ok (.value v) w := by
 unfold execOp
 simp only [ho, hx, Sem.run_pure]
theorem run_assign {ρ : Operand → Value} {o : Oper} {w : World} {x : Operand} {v : Value} (ho : o.op = .assign x) (hx : ρ x = v) : (execOp ρ o).run P w = .ok (.value v) w := by
 unfold execOp
 simp only [ho, hx, Sem.run_pure]
theorem run_nilCheck {ρ : Operand → Value} {o : Oper} {w : World} {x : Operand} {p : Addr} (ho : o.op = .nilCheck x) (hx : ρ x = .pointer (some p)) : (execOp ρ o).run P w = .ok (.value (.pointer (some p))) w := by
 unfold execOp
 simp only [ho, hx, Sem.run_pure]
theorem run_fieldAddr {ρ : Operand → Value} {o : Oper} {w : World} {t : TypeId} {f : Nat} {x : Operand} {u v : Value} (ho : o.op = .fieldAddr t x f) (hx : ρ x = u) (hr : (Instr.fieldAt t u f).run P w = .ok v w) : (execOp ρ o).run P w = .ok (.value v) w := by
 unfold execOp
 simp only [ho, hx, Sem.run_bind, Sem.run_pure, Result.andThen_ok, hr]
theorem run_field {ρ : Operand → Value} {o : Oper} {w : World} {t : TypeId} {f : Nat} {x : Operand} {u v : Value} (ho : o.op = .field t x f) (hx : ρ x = u) (hr : (Instr.field t u f).run P w = .ok v w) : (execOp ρ o).run P w = .ok (.value v) w := by
 unfold execOp
 simp only [ho, hx, Sem.run_bind, Sem.run_pure, Result.andThen_ok, hr]
theorem run_build {ρ : Operand → Value} {o : Oper} {w : World} {t : TypeId} {parts : Array (Nat × Operand)} {vs : Array (Nat × Value)} {v : Value} (ho : o.op = .build t parts) (hx : (parts.map fun (i, x) => (i, ρ x)) = vs) (hr : (Instr.build t vs).run P w = .ok v w) : (execOp ρ o).run P w = .ok (.value v) w := by
 unfold execOp
 simp only [ho, hx, Sem.run_bind, Sem.run_pure, Result.andThen_ok, hr]
theorem run_buildSlice {ρ : Operand → Value} {o : Oper} {w w' : World} {t : TypeId} {len : Nat} {parts : Array (Nat × Operand)} {vs : Array (Nat × Value)} {v : Value} (ho : o.op = .buildSlice t len parts) (hx : (parts.map fun (i, x) => (i, ρ x)) = vs) (hr : (Instr.buildSlice t len vs).run P w = .ok v w') : (execOp ρ o).run P w = .ok (.value v) w' := by
 unfold execOp
 simp only [ho, hx, Sem.run_bind, Sem.run_pure, Result.andThen_ok, hr]
theorem run_extract {ρ : Operand → Value} {o : Oper} {w : World} {i : Nat} {x : Operand} {u v : Value} (ho : o.op = .extract x i) (hx : ρ x = u) (hr : (Instr.extract u i).run P w = .ok v w) : (execOp ρ o).run P w = .ok (.value v) w := by
 unfold execOp
 simp only [ho, hx, Sem.run_bind, Sem.run_pure, Result.andThen_ok, hr]
theorem run_enter {w : World} {f : FuncId} {fn : Func} {vs : Array Value} (hf : P.funcs[f]? = some fn) (hn : (fn.name == "runtime.NumGoroutine") = false) (hb : fn.body.isNone = false) : (callFunc f vs).run P w = .ok (.enter f vs) w := by
 have hn' : ¬ fn.name = "runtime.NumGoroutine" := by simpa using hn
 have hb' : ¬ fn.body = none := by rintro e; rw [e] at hb; cases hb
 simp [callFunc, hf, hn', hb']
theorem run_call {ρ : Operand → Value} {o : Oper} {w : World} {x : Operand} {f : FuncId} {args : Array Operand} {tys : Array TypeId} {vs : Array Value} (ho : o.op = .call { callee := .value x, args := args, argTypes := tys }) (hf : ρ x = .func (.func f) #[] #[]) (hv : args.map ρ = vs)
  (hc : (callFunc f vs).run P w = .ok (.enter f vs) w) : (execOp ρ o).run P w = .ok (.enter f vs) w := by
 unfold execOp
 simp only [ho]
 unfold resolve
 simp only [hv, hf]
 go_simp
end
def It.room (T : TypeId) (n n0 : Nat) : It := ⟨fun v w => ∃ N, v = .pointer (some ⟨N, 0, none⟩) ∧ n0 ≤ N ∧ ∃ V : List Value, V.length = n ∧ Blk w N T V, fun _ _ _ ⟨N, e, hn, V, hl, h⟩ hg => ⟨N, e, hn, V, hl, h.grown hg (by simp)⟩⟩
def It.Over (it : It) : Prop := ∀ v w (N : Nat) (T : TypeId) (V cs : List Value), Blk w N T V → V.length = cs.length → it.p v w → it.p v (w.setCells N 0 cs)
def Stored1 (T : TypeId) (cs : List Value) (_ : Nat) (u : Value) (w : World) : Prop := ∃ N, u = .pointer (some ⟨N, 0, none⟩) ∧ Blk w N T cs
section
variable {P : Program} {ops : Array Oper} {Q : Exit → Act → World → Prop} {L : List It} {W : World} {a0 : Act} {ps : List Nat} {p : Nat} {T : TypeId} {cs : List Value}
abbrev AtM (W : World) (ps : List Nat) (p : Nat) (T : TypeId) (cs : List Value) (L : List It) (a0 : Act) (ops : Array Oper) (o : Oper) (a : Act) (w : World) : Prop := FlowAt3 (its L) (fun _ => p) (Stored1 T cs) (fun w => W.grownBy w none) ps a0 ops o a w
abbrev StepM (W : World) (ps : List Nat) (p : Nat) (T : TypeId) (cs : List Value) (P : Program) (Q : Exit → Act → World → Prop) (L : List It) (a0 : Act) (ops : Array Oper) (i : Nat) (o : Oper) : Prop := FlowStep3 P Q (its L) (fun _ => p) (Stored1 T cs) (fun w => W.grownBy w none) ps a0 ops i o
theorem stored1_grown {w w' : World} (hg : w.grownBy w' none) (j : Nat) (u : Value) (h : Stored1 T cs j u w) : Stored1 T cs j u w' := by
 obtain ⟨N, e, hb⟩ := h
 exact ⟨N, e, hb.grown hg (by simp)⟩
theorem valueM {i : Nat} {o : Oper} {d : Nat} (hd : o.dst = some d) (hps : (ps.all fun s => s != d) = true)
  (h : ∀ a w, AtM W ps p T cs L a0 ops o a w → Wants ops o a ∧ ∃ v w', (execOp a.eval o).run P w = .ok (.value v) w' ∧ w.grownBy w' none ∧ its L d v w') : StepM W ps p T cs P Q L a0 ops i o :=
 flow3_value hd fun a w hF => by
  obtain ⟨hw, v, w', hr, hg, hG⟩ := h a w hF
  exact ⟨hw, v, w', hr, gb_trans hF.base hg, fun d u => its_grown hg d u, fun j u => stored1_grown hg j u, ptrs_put hF.ptrs hg.size (not_in hps), hG⟩
theorem allocM {i : Nat} {o : Oper} {d : Nat} (hd : o.dst = some d) (hlt : d < a0.tmps.size)
  (h : ∀ a w, AtM W ps p T cs L a0 ops o a w → Wants ops o a ∧ ∃ w', (execOp a.eval o).run P w = .ok (.value (.pointer (some ⟨w.heap.size, 0, none⟩))) w' ∧ w.grownBy w' none ∧ w.heap.size < w'.heap.size ∧ its L d (.pointer (some ⟨w.heap.size, 0, none⟩)) w') : StepM W ps p T cs P Q L a0 ops i o :=
 flow3_value hd fun a w hF => by
  obtain ⟨hw, w', hr, hg, hs, hG⟩ := h a w hF
  exact ⟨hw, _, w', hr, gb_trans hF.base hg, fun d u => its_grown hg d u, fun j u => stored1_grown hg j u, ptrs_new hF.ptrs hs (by rw [hF.size]; exact hlt), hG⟩
theorem callM {i : Nat} {o : Oper} {d : Nat} (hd : o.dst = some d) (hps : (ps.all fun s => s != d) = true)
  (h : ∀ a w, AtM W ps p T cs L a0 ops o a w → Wants ops o a ∧ ∃ f args, (execOp a.eval o).run P w = .ok (.enter f args) w ∧ Calls P f args w fun e w' => ∃ v, e = .returned v ∧ w.grownBy w' none ∧ its L d v w') : StepM W ps p T cs P Q L a0 ops i o :=
 flow3_call hd fun a w hF => by
  obtain ⟨hw, f, args, hr, hc⟩ := h a w hF
  refine ⟨hw, f, args, hr, hc.mono fun e w' he => ?_⟩
  obtain ⟨v, rfl, hg, hG⟩ := he
  exact ⟨v, rfl, gb_trans hF.base hg, fun d u => its_grown hg d u, fun j u => stored1_grown hg j u, ptrs_put hF.ptrs hg.size (not_in hps), hG⟩
theorem any_over : It.any.Over := fun _ _ _ _ _ _ _ _ _ => trivial
theorem val_over (x : Value) : (It.val x).Over := fun _ _ _ _ _ _ _ _ h => h
theorem room_over (T : TypeId) (n n0 : Nat) : (It.room T n n0).Over := fun v w N T' V cs hb hl ⟨N', e, hn, V', hl', hb'⟩ => by
 by_cases he : N = N'
 ·subst he
  unfold Blk at hb hb'
  rw [hb] at hb'
  cases hb'
  exact ⟨N, e, hn, over V 0 cs, by rw [over_length]; exact hl', Blk.setCells hb 0⟩
 ·exact ⟨N', e, hn, V', hl', hb'.setCells_other 0 he⟩
theorem its_over {L : List It} (hL : ∀ it ∈ L, it.Over) {w : World} {N : Nat} {T : TypeId} {V cs : List Value} (hb : Blk w N T V) (hl : V.length = cs.length) (d : Nat) (v : Value) (h : its L d v w) : its L d v (w.setCells N 0 cs) := by
 unfold its at *
 by_cases hd : d < L.length
 ·rw [List.getD_eq_getElem?_getD, List.getElem?_eq_getElem hd] at *
  exact hL _ (List.getElem_mem hd) v w N T V cs hb hl h
 ·rw [List.getD_eq_getElem?_getD, List.getElem?_eq_none (by omega)] at *
  trivial
theorem storeM {i : Nat} {o : Oper} {x y : Operand} (hd : o.dst = none) (ho : o.op = .store T x y) (hL : ∀ it ∈ L, it.Over) (hi : (P.info? T).map (·.size) = some cs.length) (h1 : cs.all (·.oneCell') = true)
  (h : ∀ a w, AtM W ps p T cs L a0 ops o a w → Wants ops o a ∧ ∃ N, a.tmps.getD p undef = .pointer (some ⟨N, 0, none⟩) ∧ a.eval x = .pointer (some ⟨N, 0, none⟩) ∧ a.eval y = .agg cs.toArray ∧ W.heap.size ≤ N ∧ ∃ V : List Value, V.length = cs.length ∧ Blk w N T V) : StepM W ps p T cs P Q L a0 ops i o :=
 flow3_store hd fun a w hF => by
  obtain ⟨hw, N, hp, hx, hy, hn, V, hl, hb⟩ := h a w hF
  refine ⟨hw, _, run_store ho hx hy (hb.there 0 cs.length (by omega)) hi h1, gb_setCells_new hF.base hn 0, fun d u => its_over hL hb hl d u, fun j oj _ _ _ hM => ?_, (gb_setCells (cs := cs) (gb_refl w (some N)) 0).size, ⟨N, hp, hb.setAll hl⟩⟩
  exact ⟨N, hp, hb.setAll hl⟩
end
end Fg
end
section
open Go.RowKit
namespace Fg
theorem slotv (a : Act) (i : Nat) : ∃ u, a.tmps.getD i undef = u := ⟨_, rfl⟩
def SlotsV (a : Act) : List Nat → Prop
 | [] => True
 | i :: r => (∃ u, a.tmps.getD i undef = u) ∧ SlotsV a r
theorem slotvs (a : Act) : ∀ L : List Nat, SlotsV a L
 | [] => trivial
 | _ :: r => ⟨⟨_, rfl⟩, slotvs a r⟩
variable {P : Program} {Q : Exit → Act → World → Prop} {L : List It} {a0 : Act} {ops : Array Oper} {ps : List Nat}
theorem vS {W : World} {k i : Nat} {o : Oper} {d : Nat} {r : List Oper} (hd : o.dst = some d) (hps : (ps.all fun s => s != d) = true)
  (h : ∀ a w, AtP k ps L (fun w => World.grownBy W w none) a0 ops o a w → Wants ops o a ∧ ∃ v w', (execOp a.eval o).run P w = .ok (.value v) w' ∧ w.grownBy w' none ∧ its L d v w')
  (hr : StepsS k ps P Q L (fun w => World.grownBy W w none) a0 ops (i + 1) r) : StepsS k ps P Q L (fun w => World.grownBy W w none) a0 ops i (o :: r) :=
 ⟨⟨⟨_, hd⟩, valueP (fun _ _ h k => gb_trans h k) hd hps h⟩, hr⟩
theorem cS {W : World} {k i : Nat} {o : Oper} {d : Nat} {r : List Oper} (hd : o.dst = some d) (hps : (ps.all fun s => s != d) = true)
  (h : ∀ a w, AtP k ps L (fun w => World.grownBy W w none) a0 ops o a w → Wants ops o a ∧ ∃ f args, (execOp a.eval o).run P w = .ok (.enter f args) w ∧ Calls P f args w fun e w' => ∃ v, e = .returned v ∧ w.grownBy w' none ∧ its L d v w')
  (hr : StepsS k ps P Q L (fun w => World.grownBy W w none) a0 ops (i + 1) r) : StepsS k ps P Q L (fun w => World.grownBy W w none) a0 ops i (o :: r) :=
 ⟨⟨⟨_, hd⟩, callP (fun _ _ h k => gb_trans h k) hd hps h⟩, hr⟩
theorem AtP.d {B : World → Prop} {k : Nat} {o : Oper} {a : Act} {w : World} (h : AtP k ps L B a0 ops o a w) (d : Nat) (hd : waits ops o d = true := by kernel_rfl) : its L d (a.tmps.getD d undef) w := h.dep d hd
theorem AtP.r {B : World → Prop} {k : Nat} {o : Oper} {a : Act} {w : World} (h : AtP k ps L B a0 ops o a w) (d : Nat) (hd : isDstTo ops k d = false := by kernel_rfl) : a.tmps.getD d undef = a0.tmps.getD d undef := h.rest d hd
def AtD (a : Act) (D : List Nat) : Nat → List Value → Prop
 | _, [] => True
 | i, v :: r => match D.contains i with
  | true => a.tmps.getD i undef = v ∧ AtD a D (i + 1) r
  | false => AtD a D (i + 1) r
def maskD (D : List Nat) : Nat → List Value → List Value
 | _, [] => []
 | i, v :: r => (if D.contains i = true then undef else v) :: maskD D (i + 1) r
theorem atD_all {a a0 : Act} {D : List Nat} {k : Nat} (hr : ∀ d, isDstTo ops k d = false → a.tmps.getD d undef = a0.tmps.getD d undef) : ∀ (vs us : List Value) (i : Nat), (∀ j, us.getD j undef = a0.tmps.getD (i + j) undef) → us.length = vs.length →
  (∀ d, i ≤ d → d < i + vs.length → D.contains d = false → isDstTo ops k d = false) → maskD D i us = maskD D i vs → AtD a D i vs → AllAt a i vs := by
 intro vs
 induction vs with
 | nil => intros; trivial
 | cons v r ih =>
  intro us i hu hl hD hm h
  cases us with
  | nil => simp at hl
  | cons u us =>
   simp only [maskD, List.cons.injEq] at hm
   have hu2 : ∀ j, us.getD j undef = a0.tmps.getD (i + 1 + j) undef := fun j => by
    have := hu (j + 1)
    rw [show i + 1 + j = i + (j + 1) by omega]
    simpa using this
   have hD2 : ∀ d, i + 1 ≤ d → d < i + 1 + r.length → D.contains d = false → isDstTo ops k d = false := fun d h1 h2 => hD d (by omega) (by simp only [List.length_cons]; omega)
   have hl2 : us.length = r.length := by simpa using hl
   unfold AtD at h
   by_cases hc : D.contains i = true
   ·rw [hc] at h
    exact ⟨h.1, ih us (i + 1) hu2 hl2 hD2 hm.2 h.2⟩
   ·have hc' : D.contains i = false := by simpa using hc
    rw [hc'] at h hm
    refine ⟨?_, ih us (i + 1) hu2 hl2 hD2 hm.2 h⟩
    have h0 := hu 0
    simp only [List.getD_cons_zero, Nat.add_zero] at h0
    rw [hr i (hD i (Nat.le_refl _) (by simp only [List.length_cons]; omega) hc'), ← h0]
    simpa using hm.1
theorem frame_by {a a0 : Act} {k : Nat} (D : List Nat) {vs : List Value} (hs : a.tmps.size = a0.tmps.size) (hr : ∀ d, isDstTo ops k d = false → a.tmps.getD d undef = a0.tmps.getD d undef)
  (hD : ((List.range vs.length).all fun d => D.contains d || !isDstTo ops k d) = true) (hm : maskD D 0 a0.tmps.toList = maskD D 0 vs) (hl : a0.tmps.size = vs.length) (h : AtD a D 0 vs) (hd : a.defers = []) : a = { tmps := vs.toArray, defers := [] } := by
 refine frame_is (hs.trans hl) (atD_all hr vs a0.tmps.toList 0 (fun j => ?_) (by simpa using hl) (fun d _ h2 hc => ?_) hm h) hd
 ·rw [Nat.zero_add, Array.getD_eq_getD_getElem?, List.getD_eq_getElem?_getD, Array.getElem?_toList]
 ·have := List.all_eq_true.1 hD d (List.mem_range.2 (by omega))
  rw [hc] at this
  simpa using this
theorem vn {a : Act} {w : World} {o : Oper} {d : Nat} (v : Value) (hr : (execOp a.eval o).run P w = .ok (.value v) w) (hg : o.guard = none := by exact rfl) (hi : its L d v w := by exact rfl) :
  Wants ops o a ∧ ∃ v w', (execOp a.eval o).run P w = .ok (.value v) w' ∧ w.grownBy w' none ∧ its L d v w' := ⟨wants_none hg, v, w, hr, gb_refl _ _, hi⟩
theorem vx {a : Act} {w : World} {o : Oper} {d : Nat} (v : Value) (hw : Wants ops o a) (hr : (execOp a.eval o).run P w = .ok (.value v) w) (hi : its L d v w := by exact rfl) :
  Wants ops o a ∧ ∃ v w', (execOp a.eval o).run P w = .ok (.value v) w' ∧ w.grownBy w' none ∧ its L d v w' := ⟨hw, v, w, hr, gb_refl _ _, hi⟩
theorem rT {id : Nat} {w : World} (ps : List Nat) (L : List It) (k : Nat) (steps : StepsS k ps P Q L (fun w' => World.grownBy w w' none) a0 ops 0 (ops.toList.take k))
  (fin : ∀ a w', World.grownBy w w' none → a.tmps.size = a0.tmps.size → a.defers = a0.defers → (∀ d, isDstTo ops k d = false → a.tmps.getD d undef = a0.tmps.getD d undef) →
   (∀ d, isDstTo ops k d = true → its L d (a.tmps.getD d undef) w') → PtrsApart ps a w' → wpList P ops Q (ops.toList.drop k) a w')
  (hm : P.follows .mixedOrders = true := by kernel_rfl) (ht : topo ops = true := by kernel_rfl) (ho : once (ops.extract 0 k) a0.tmps.size = true := by kernel_rfl) (htl : tailOk ops k = true := by kernel_rfl) (hk : k ≤ ops.size := by decide) (hps : PtrsApart ps a0 w.drew := by exact Fg.ptrs_undef (by kernel_rfl)) :
  (Code.region id ops true).wp P Q a0 w := wp_region_tail L (fun w' => World.grownBy w w' none) k (gb_drew (gb_refl _ _)) hm ht ho htl hk hps steps fin
theorem rP {id : Nat} {w : World} (ps : List Nat) (L : List It) (k : Nat) (steps : StepsS k ps P Q L (fun w' => World.grownBy w w' none) a0 ops 0 (ops.toList.take k))
  (fin : ∀ a w', World.grownBy w w' none → a.tmps.size = a0.tmps.size → a.defers = a0.defers → (∀ d, isDstTo ops k d = false → a.tmps.getD d undef = a0.tmps.getD d undef) →
   (∀ d, isDstTo ops k d = true → its L d (a.tmps.getD d undef) w') → PtrsApart ps a w' → wpList P ops Q (ops.toList.drop k) a w')
  (ht : topo ops = true := by kernel_rfl) (ho : once (ops.extract 0 k) a0.tmps.size = true := by kernel_rfl) (hk : k ≤ ops.size := by decide) (hps : PtrsApart ps a0 w := by exact Fg.ptrs_undef (by kernel_rfl)) :
  (Code.region id ops false).wp P Q a0 w := wp_region_plain L (fun w' => World.grownBy w w' none) k (gb_refl _ _) ht ho hk hps steps fin
end Fg
theorem Blk.gn {w w' : World} {B : Nat} {T : TypeId} {L : List Value} (h : Blk w B T L) (g : w.grownBy w' none) : Blk w' B T L := h.grown g (by simp)
abbrev zr5 : List Value := [Value.int IntKind.u64 0, Value.int IntKind.u64 0, Value.int IntKind.u64 0, Value.int IntKind.u64 0, Value.int IntKind.u64 0]
abbrev zr20 : List Value := [Value.int IntKind.u64 0, Value.int IntKind.u64 0, Value.int IntKind.u64 0, Value.int IntKind.u64 0, Value.int IntKind.u64 0, Value.int IntKind.u64 0, Value.int IntKind.u64 0, Value.int IntKind.u64 0, Value.int IntKind.u64 0, Value.int IntKind.u64 0, Value.int IntKind.u64 0, Value.int IntKind.u64 0, Value.int IntKind.u64 0, Value.int IntKind.u64 0, Value.int IntKind.u64 0, Value.int IntKind.u64 0, Value.int IntKind.u64 0, Value.int IntKind.u64 0, Value.int IntKind.u64 0, Value.int IntKind.u64 0]
abbrev zr30 : List Value := [Value.int IntKind.u64 0, Value.int IntKind.u64 0, Value.int IntKind.u64 0, Value.int IntKind.u64 0, Value.int IntKind.u64 0, Value.int IntKind.u64 0, Value.int IntKind.u64 0, Value.int IntKind.u64 0, Value.int IntKind.u64 0, Value.int IntKind.u64 0, Value.int IntKind.u64 0, Value.int IntKind.u64 0, Value.int IntKind.u64 0, Value.int IntKind.u64 0, Value.int IntKind.u64 0, Value.int IntKind.u64 0, Value.int IntKind.u64 0, Value.int IntKind.u64 0, Value.int IntKind.u64 0, Value.int IntKind.u64 0, Value.int IntKind.u64 0, Value.int IntKind.u64 0, Value.int IntKind.u64 0, Value.int IntKind.u64 0, Value.int IntKind.u64 0, Value.int IntKind.u64 0, Value.int IntKind.u64 0, Value.int IntKind.u64 0, Value.int IntKind.u64 0, Value.int IntKind.u64 0]
end
namespace Num
def Prime (p : Nat) : Prop := 2 ≤ p ∧ ∀ m, m ∣ p → m = 1 ∨ m = p
theorem Prime.coprime {p a : Nat} (h : Prime p) (ha : ¬ p ∣ a) : Nat.Coprime p a := by
 rcases h.2 (Nat.gcd p a) (Nat.gcd_dvd_left p a) with e | e
 ·exact e
 ·exact absurd (e ▸ Nat.gcd_dvd_right p a) ha
theorem Prime.dvd_mul {p a b : Nat} (h : Prime p) (hd : p ∣ a * b) : p ∣ a ∨ p ∣ b := by
 by_cases ha : p ∣ a
 ·exact Or.inl ha
 ·exact Or.inr ((h.coprime ha).dvd_of_dvd_mul_left hd)
theorem exists_prime : ∀ n : Nat, 2 ≤ n → ∃ r, Prime r ∧ r ∣ n := by
 intro n
 induction n using Nat.strongRecOn with
 | _ n ih =>
  intro h2
  by_cases hp : Prime n
  ·exact ⟨n, hp, Nat.dvd_refl n⟩
  ·have : ∃ m, m ∣ n ∧ m ≠ 1 ∧ m ≠ n := by
    by_cases hm : ∃ m, m ∣ n ∧ m ≠ 1 ∧ m ≠ n
    ·exact hm
    ·refine absurd ⟨h2, fun m hd => ?_⟩ hp
     by_cases e1 : m = 1
     ·exact Or.inl e1
     ·by_cases e2 : m = n
      ·exact Or.inr e2
      ·exact absurd ⟨m, hd, e1, e2⟩ hm
   obtain ⟨m, hd, h1, hn⟩ := this
   have hle := Nat.le_of_dvd (by omega) hd
   have h0 : m ≠ 0 := by rintro rfl; have := Nat.eq_zero_of_zero_dvd hd; omega
   obtain ⟨r, hr, hrd⟩ := ih m (by omega) (by omega)
   exact ⟨r, hr, Nat.dvd_trans hrd hd⟩
theorem small_part {n : Nat} (h2 : 2 ≤ n) (hp : ¬ Prime n) : ∃ r, Prime r ∧ r ∣ n ∧ r * r ≤ n := by
 have : ∃ m, m ∣ n ∧ m ≠ 1 ∧ m ≠ n := by
  by_cases hm : ∃ m, m ∣ n ∧ m ≠ 1 ∧ m ≠ n
  ·exact hm
  ·refine absurd ⟨h2, fun m hd => ?_⟩ hp
   by_cases e1 : m = 1
   ·exact Or.inl e1
   ·by_cases e2 : m = n
    ·exact Or.inr e2
    ·exact absurd ⟨m, hd, e1, e2⟩ hm
 obtain ⟨m, ⟨k, hk⟩, h1, hn⟩ := this
 have hm0 : m ≠ 0 := by rintro rfl; omega
 have hk0 : k ≠ 0 := by rintro rfl; omega
 have hk1 : k ≠ 1 := by rintro rfl; omega
 have go : ∀ x y : Nat, n = x * y → 2 ≤ x → x ≤ y → ∃ r, Prime r ∧ r ∣ n ∧ r * r ≤ n := by
  intro x y e hx hxy
  obtain ⟨r, hr, hd⟩ := exists_prime x hx
  have hrx := Nat.le_of_dvd (by omega) hd
  exact ⟨r, hr, e ▸ Nat.dvd_trans hd (Nat.dvd_mul_right x y), e ▸ Nat.mul_le_mul hrx (Nat.le_trans hrx hxy)⟩
 rcases Nat.le_total m k with h | h
 ·exact go m k hk (by omega) h
 ·exact go k m (by rw [hk, Nat.mul_comm]) (by omega) h
def prod (l : List Nat) : Nat := l.foldr (· * ·) 1
theorem prod_cons (x : Nat) (l : List Nat) : prod (x :: l) = x * prod l := rfl
theorem prod_perm {l l' : List Nat} (h : l.Perm l') : prod l = prod l' := by
 induction h with
 | nil => rfl
 | cons x _ ih => rw [prod_cons, prod_cons, ih]
 | swap x y l => simp only [prod_cons]; rw [Nat.mul_left_comm]
 | trans _ _ h1 h2 => exact h1.trans h2
theorem perm_of {l l' : List Nat} (hn : l.Nodup) (hs : ∀ x ∈ l, x ∈ l') (hl : l.length = l'.length) : l.Perm l' := by
 induction l generalizing l' with
 | nil => rw [List.eq_nil_of_length_eq_zero hl.symm]
 | cons x t ih =>
  have hx := hs x (List.mem_cons_self ..)
  have hn' := List.nodup_cons.1 hn
  have hp := List.perm_cons_erase hx
  refine List.Perm.trans (List.Perm.cons x (ih hn'.2 (fun y hy => ?_) ?_)) hp.symm
  ·have hne : y ≠ x := fun e => hn'.1 (e ▸ hy)
   exact (List.mem_erase_of_ne hne).2 (hs y (List.mem_cons_of_mem _ hy))
  ·have := hp.length_eq
   simp only [List.length_cons] at this hl
   omega
theorem prod_map (p a : Nat) (l : List Nat) : prod (l.map fun i => a * i % p) % p = a ^ l.length * prod l % p := by
 induction l with
 | nil => simp [prod]
 | cons x t ih =>
  rw [List.map_cons, prod_cons, Nat.mul_mod, ih, Nat.mod_mod, ← Nat.mul_mod, prod_cons, List.length_cons, Nat.pow_succ]
  congr 1
  simp only [Nat.mul_assoc, Nat.mul_left_comm, Nat.mul_comm]
theorem not_dvd_prod {p : Nat} (h : Prime p) (l : List Nat) (hl : ∀ x ∈ l, ¬ p ∣ x) : ¬ p ∣ prod l := by
 induction l with
 | nil => intro hd; have := Nat.le_of_dvd (by decide) hd; have := h.1; simp [prod] at *; omega
 | cons x t ih =>
  intro hd
  rcases h.dvd_mul hd with e | e
  ·exact hl x (List.mem_cons_self ..) e
  ·exact ih (fun y hy => hl y (List.mem_cons_of_mem _ hy)) e
theorem cancel {p x y P : Nat} (h : Prime p) (hP : ¬ p ∣ P) (_ : y ≤ x) (e : x * P % p = y * P % p) : p ∣ x - y := by
 have h1 := Nat.sub_mod_eq_zero_of_mod_eq e
 rw [← Nat.sub_mul] at h1
 rcases h.dvd_mul (Nat.dvd_of_mod_eq_zero h1) with k | k
 ·exact k
 ·exact absurd k hP
theorem mod_one {p x : Nat} (hx : 1 ≤ x) (h : p ∣ x - 1) : x % p = 1 % p := by
 obtain ⟨k, hk⟩ := h
 have : x = 1 + p * k := by omega
 rw [this, Nat.add_mul_mod_self_left]
theorem fermat {p a : Nat} (h : Prime p) (ha : ¬ p ∣ a) : a ^ (p - 1) % p = 1 := by
 have h2 := h.1
 have hz : 1 ≤ a := by
  rcases Nat.eq_zero_or_pos a with e | e
  ·exact absurd (e ▸ Nat.dvd_zero p) ha
  ·exact e
 have mem : ∀ x, x ∈ List.range' 1 (p - 1) ↔ 1 ≤ x ∧ x < p := by
  intro x; rw [List.mem_range'_1]; omega
 have low : ∀ x ∈ List.range' 1 (p - 1), ¬ p ∣ x := fun x hx hd => by
  have := (mem x).1 hx; have := Nat.le_of_dvd (by omega) hd; omega
 have perm : ((List.range' 1 (p - 1)).map fun i => a * i % p).Perm (List.range' 1 (p - 1)) := by
  apply perm_of
  ·rw [List.nodup_iff_pairwise_ne, List.pairwise_map]
   refine List.Pairwise.imp_of_mem ?_ (List.nodup_iff_pairwise_ne.1 (List.nodup_range' ..))
   intro x y hx hy hne e
   have bx := (mem x).1 hx
   have b_y := (mem y).1 hy
   apply hne
   rw [Nat.mul_comm a x, Nat.mul_comm a y] at e
   rcases Nat.le_total x y with l | l
   ·obtain ⟨k, hk⟩ := cancel h ha l e.symm
    rcases Nat.eq_zero_or_pos k with z | z
    ·subst z; omega
    ·have := Nat.le_mul_of_pos_right p z; omega
   ·obtain ⟨k, hk⟩ := cancel h ha l e
    rcases Nat.eq_zero_or_pos k with z | z
    ·subst z; omega
    ·have := Nat.le_mul_of_pos_right p z; omega
  ·intro x hx
   obtain ⟨i, hi, rfl⟩ := List.mem_map.1 hx
   rw [mem]
   refine ⟨?_, Nat.mod_lt _ (by omega)⟩
   rcases Nat.eq_zero_or_pos (a * i % p) with z | z
   ·rcases h.dvd_mul (Nat.dvd_of_mod_eq_zero z) with k | k
    ·exact absurd k ha
    ·exact absurd k (low i hi)
   ·exact z
  ·simp
 have e := prod_map p a (List.range' 1 (p - 1))
 rw [prod_perm perm, List.length_range'] at e
 have hd := cancel (x := a ^ (p - 1)) (y := 1) h (not_dvd_prod h _ low) (Nat.one_le_pow _ _ hz) (by rw [Nat.one_mul]; exact e.symm)
 rw [mod_one (Nat.one_le_pow _ _ hz) hd, Nat.mod_eq_of_lt h2]
theorem pow_one_mul {r b x : Nat} (k : Nat) (h : b ^ x % r = 1 % r) : b ^ (x * k) % r = 1 % r := by
 rw [Nat.pow_mul, Nat.pow_mod, h, ← Nat.pow_mod, Nat.one_pow]
theorem pow_gcd (r b x y : Nat) (hx : b ^ x % r = 1 % r) (hy : b ^ y % r = 1 % r) : b ^ Nat.gcd x y % r = 1 % r := by
 induction x, y using Nat.gcd.induction with
 | H0 y => rwa [Nat.gcd_zero_left]
 | H1 x y _ ih =>
  rw [Nat.gcd_rec]
  refine ih ?_ hx
  have e : b ^ y = b ^ (x * (y / x)) * b ^ (y % x) := by rw [← Nat.pow_add, Nat.div_add_mod]
  rw [e, Nat.mul_mod, pow_one_mul _ hx, ← Nat.mul_mod, Nat.one_mul] at hy
  exact hy
theorem step {N q m a : Nat} (hq : Prime q) (hN : N - 1 = m * q) (h2 : 2 ≤ N) (h1 : a ^ (N - 1) % N = 1) (hg : Nat.gcd (a ^ m % N + (N - 1)) N = 1) :
  ∀ r, Prime r → r ∣ N → q ∣ r - 1 := by
 intro r hr hd
 have hr2 := hr.1
 by_cases hn : q ∣ r - 1
 ·exact hn
 have hc : Nat.gcd q (r - 1) = 1 := hq.coprime hn
 have hb : (a ^ m) ^ q % r = 1 % r := by
  rw [← Nat.pow_mul, ← hN, ← Nat.mod_mod_of_dvd _ hd, h1]
 have ha : ¬ r ∣ a ^ m := by
  intro k
  have hq0 : q ≠ 0 := by have := hq.1; omega
  have := Nat.mod_eq_zero_of_dvd (Nat.dvd_trans k ⟨(a ^ m) ^ (q - 1), by rw [← Nat.pow_succ', show (q - 1).succ = q by omega]⟩)
  rw [hb, Nat.mod_eq_of_lt hr2] at this
  omega
 have hf := fermat hr ha
 have h3 := pow_gcd r (a ^ m) q (r - 1) hb (by rw [hf, Nat.mod_eq_of_lt hr2])
 rw [hc, Nat.pow_one] at h3
 have h4 : r ∣ Nat.gcd (a ^ m % N + (N - 1)) N := by
  refine Nat.dvd_gcd (Nat.dvd_of_mod_eq_zero ?_) hd
  rw [Nat.add_mod, Nat.mod_mod_of_dvd _ hd, h3, ← Nat.add_mod, Nat.add_sub_cancel' (by omega : 1 ≤ N)]
  exact Nat.mod_eq_zero_of_dvd hd
 rw [hg] at h4
 have := Nat.le_of_dvd (by decide) h4
 omega
theorem prime_of {N F : Nat} (h2 : 2 ≤ N) (hF : N < F * F) (h : ∀ r, Prime r → r ∣ N → F ∣ r - 1) : Prime N := by
 by_cases hp : Prime N
 ·exact hp
 obtain ⟨r, hr, hd, hle⟩ := small_part h2 hp
 have hr2 := hr.1
 have := Nat.le_of_dvd (by omega) (h r hr hd)
 have : F * F ≤ r * r := Nat.mul_le_mul (by omega) (by omega)
 omega
theorem both {x q q' : Nat} (hq : Prime q) (hn : ¬ q ∣ q') (h : q ∣ x) (h' : q' ∣ x) : q * q' ∣ x :=
 Nat.Coprime.mul_dvd_of_dvd_of_dvd (hq.coprime hn) h h'
def trial (n : Nat) : Nat → Nat → Bool
 | 0, _ => true
 | f + 1, d => n % d != 0 && trial n f (d + 1)
theorem trial_says {n : Nat} : ∀ f d, trial n f d = true → ∀ m, d ≤ m → m < d + f → n % m ≠ 0 := by
 intro f
 induction f with
 | zero => intro d _ m h1 h2; omega
 | succ f ih =>
  intro d h m h1 h2
  simp only [trial, Bool.and_eq_true, bne_iff_ne] at h
  by_cases e : m = d
  ·subst e; exact h.1
  ·exact ih (d + 1) h.2 m (by omega) (by omega)
theorem prime_trial {n : Nat} (f : Nat) (h2 : 2 ≤ n) (hf : n < (f + 2) * (f + 2)) (h : trial n f 2 = true) : Prime n := by
 by_cases hp : Prime n
 ·exact hp
 obtain ⟨r, hr, hd, hle⟩ := small_part h2 hp
 have hr2 := hr.1
 by_cases hlt : r < 2 + f
 ·exact absurd (Nat.mod_eq_zero_of_dvd hd) (trial_says f 2 h r hr2 hlt)
 ·have : (f + 2) * (f + 2) ≤ r * r := Nat.mul_le_mul (by omega) (by omega)
  omega
def pm (n a : Nat) : Nat → Nat → Nat
 | 0, _ => 1 % n
 | f + 1, e => if e % 2 = 0 then pm n a f (e / 2) * pm n a f (e / 2) % n else pm n a f (e / 2) * pm n a f (e / 2) % n * a % n
theorem pm_is (n a : Nat) : ∀ f e, e < 2 ^ f → pm n a f e = a ^ e % n := by
 intro f
 induction f with
 | zero => 
  intro e h
  have : e = 0 := by simpa using h
  subst this
  simp [pm]
 | succ f ih =>
  intro e h
  have h' : e / 2 < 2 ^ f := by rw [Nat.pow_succ] at h; omega
  have sq : pm n a f (e / 2) * pm n a f (e / 2) % n = a ^ (e / 2 + e / 2) % n := by
   rw [ih _ h', ← Nat.mul_mod, ← Nat.pow_add]
  rw [pm, sq]
  by_cases h2 : e % 2 = 0
  ·rw [if_pos h2, show e / 2 + e / 2 = e by omega]
  ·rw [if_neg h2, Nat.mod_mul_mod, ← Nat.pow_succ, show (e / 2 + e / 2).succ = e by omega]
theorem pow_is {n a e v : Nat} (f : Nat) (he : e < 2 ^ f) (h : pm n a f e = v) : a ^ e % n = v := by rw [← pm_is n a f e he]; exact h
theorem step' {N q : Nat} (m a f b : Nat) (hq : Prime q) (hN : N - 1 = m * q) (h2 : 2 ≤ N) (hf : N < 2 ^ f) (h1 : pm N a f (N - 1) = 1) (hb : pm N a f m = b) (hg : Nat.gcd (b + (N - 1)) N = 1) :
  ∀ r, Prime r → r ∣ N → q ∣ r - 1 := by
 have hm : m < 2 ^ f := by
  have h1 := hq.1
  have : m * 1 ≤ m * q := Nat.mul_le_mul_left m (by omega)
  omega
 refine step (a := a) hq hN h2 (pow_is f (by omega) h1) ?_
 rw [pow_is f hm hb]; exact hg
end Num
namespace Num
theorem q11_prime : Prime 127 := prime_trial 11 (by decide) (by decide) (by decide +kernel)
theorem q8_prime : Prime 4153 := prime_trial 64 (by decide) (by decide) (by decide +kernel)
theorem q7_prime : Prime 430751 := prime_trial 656 (by decide) (by decide) (by decide +kernel)
theorem q6_prime : Prime 8574133 := prime_trial 2928 (by decide) (by decide) (by decide +kernel)
theorem q10_prime : Prime 569003 := prime_trial 754 (by decide) (by decide) (by decide +kernel)
theorem q9_prime : Prime 2773320623 := prime_of (F := 569003) (by decide) (by decide +kernel) fun r hr hd => (step' 4874 2 32 2039232613 q10_prime (by decide +kernel) (by decide) (by decide +kernel) (by decide +kernel) (by decide +kernel) (by decide +kernel) r hr hd)
theorem q5_prime : Prime 72106336199 := prime_of (F := 2773320623) (by decide) (by decide +kernel) fun r hr hd => (step' 26 2 37 67108864 q9_prime (by decide +kernel) (by decide) (by decide +kernel) (by decide +kernel) (by decide +kernel) (by decide +kernel) r hr hd)
theorem q4_prime : Prime 1919519569386763 := prime_of (F := 8574133 * 127) (by decide) (by decide +kernel) fun r hr hd => both q6_prime (by decide +kernel) (step' 223873314 2 51 1059928654987441 q6_prime (by decide +kernel) (by decide) (by decide +kernel) (by decide +kernel) (by decide +kernel) (by decide +kernel) r hr hd) (step' 15114327318006 2 51 576774792492622 q11_prime (by decide +kernel) (by decide) (by decide +kernel) (by decide +kernel) (by decide +kernel) (by decide +kernel) r hr hd)
theorem q3_prime : Prime 31757755568855353 := prime_of (F := 430751 * 4153) (by decide) (by decide +kernel) fun r hr hd => both q7_prime (by decide +kernel) (step' 73726481352 2 55 15280470251845350 q7_prime (by decide +kernel) (by decide) (by decide +kernel) (by decide +kernel) (by decide +kernel) (by decide +kernel) r hr hd) (step' 7646943310584 2 55 28256283979054930 q8_prime (by decide +kernel) (by decide) (by decide +kernel) (by decide +kernel) (by decide +kernel) (by decide +kernel) r hr hd)
theorem q2_prime : Prime 75445702479781427272750846543864801 := prime_of (F := 1919519569386763 * 72106336199) (by decide) (by decide +kernel) fun r hr hd => both q4_prime (by decide +kernel) (step' 39304471641247389600 2 116 56747016255153332959347766392083459 q4_prime (by decide +kernel) (by decide) (by decide +kernel) (by decide +kernel) (by decide +kernel) (by decide +kernel) r hr hd) (step' 1046311689884858398375200 2 116 71619851993489548214160924360205394 q5_prime (by decide +kernel) (by decide) (by decide +kernel) (by decide +kernel) (by decide +kernel) (by decide +kernel) r hr hd)
theorem q1_prime : Prime 74058212732561358302231226437062788676166966415465897661863160754340907 := prime_of (F := 75445702479781427272750846543864801 * 31757755568855353) (by decide) (by decide +kernel) fun r hr hd => both q2_prime (by decide +kernel) (step' 981609426360740691344999861639072106 2 236 69490809710348678725736597923071784769591275419387514694139338586948360 q2_prime (by decide +kernel) (by decide) (by decide +kernel) (by decide +kernel) (by decide +kernel) (by decide +kernel) r hr hd) (step' 2331972502653487852620185443007392165117953542933313402 2 236 50366660687963342066214195241331738400016478712605795091965648721912165 q3_prime (by decide +kernel) (by decide) (by decide +kernel) (by decide +kernel) (by decide +kernel) (by decide +kernel) r hr hd)
theorem p_prime : Prime 57896044618658097711785492504343953926634992332820282019728792003956564819949 := prime_of (F := 74058212732561358302231226437062788676166966415465897661863160754340907) (by decide) (by decide +kernel) fun r hr hd => (step' 781764 2 255 427094198651976259540344842774561673889945192655078505504941250475370961481 q1_prime (by decide +kernel) (by decide) (by decide +kernel) (by decide +kernel) (by decide +kernel) (by decide +kernel) r hr hd)
end Num
section
structure Fe where
 x0 : Int
 x1 : Int
 x2 : Int
 x3 : Int
 x4 : Int
deriving DecidableEq
namespace Fe
structure Ok (a : Fe) : Prop where
 n0 : 0 ≤ a.x0
 n1 : 0 ≤ a.x1
 n2 : 0 ≤ a.x2
 n3 : 0 ≤ a.x3
 n4 : 0 ≤ a.x4
 l0 : a.x0 < 18446744073709551616
 l1 : a.x1 < 18446744073709551616
 l2 : a.x2 < 18446744073709551616
 l3 : a.x3 < 18446744073709551616
 l4 : a.x4 < 18446744073709551616
structure Right (a : Fe) : Prop where
 n0 : 0 ≤ a.x0
 n1 : 0 ≤ a.x1
 n2 : 0 ≤ a.x2
 n3 : 0 ≤ a.x3
 n4 : 0 ≤ a.x4
 l0 : a.x0 < 4503599627370496
 l1 : a.x1 < 4503599627370496
 l2 : a.x2 < 4503599627370496
 l3 : a.x3 < 4503599627370496
 l4 : a.x4 < 4503599627370496
theorem Right.ok {a : Fe} (h : Right a) : Ok a := by
 obtain ⟨n0, n1, n2, n3, n4, l0, l1, l2, l3, l4⟩ := h
 constructor <;> omega
def V (a : Fe) : Int := a.x0 + 2251799813685248 * a.x1 + 5070602400912917605986812821504 * a.x2 + 11417981541647679048466287755595961091061972992 * a.x3 + 25711008708143844408671393477458601640355247900524685364822016 * a.x4
def P : Nat := 57896044618658097711785492504343953926634992332820282019728792003956564819949
def m (a : Fe) : Nat := (a.V % (P : Int)).toNat
def carryF (a : Fe) : Fe :=
 ⟨a.x0 % 2251799813685248 + 19 * (a.x4 / 2251799813685248), a.x1 % 2251799813685248 + a.x0 / 2251799813685248, a.x2 % 2251799813685248 + a.x1 / 2251799813685248,
  a.x3 % 2251799813685248 + a.x2 / 2251799813685248, a.x4 % 2251799813685248 + a.x3 / 2251799813685248⟩
theorem carry_right {a : Fe} (h : Ok a) : Right (carryF a) := by
 obtain ⟨n0, n1, n2, n3, n4, l0, l1, l2, l3, l4⟩ := h
 constructor <;> simp only [carryF] <;> omega
theorem carry_V (a : Fe) : V (carryF a) = V a - (P : Int) * (a.x4 / 2251799813685248) := by
 simp only [V, carryF, P]
 omega
theorem m_of {a b : Fe} (h : ∃ k : Int, V a = V b + (P : Int) * k) : m a = m b := by
 obtain ⟨k, hk⟩ := h
 unfold m
 rw [hk, Int.add_mul_emod_self_left]
theorem carry_m (a : Fe) : m (carryF a) = m a := m_of ⟨-(a.x4 / 2251799813685248), by rw [carry_V, Int.mul_neg]; omega⟩
def w64 (x : Int) : Int := x % 18446744073709551616
def addF (a b : Fe) : Fe := carryF ⟨w64 (a.x0 + b.x0), w64 (a.x1 + b.x1), w64 (a.x2 + b.x2), w64 (a.x3 + b.x3), w64 (a.x4 + b.x4)⟩
def subF (a b : Fe) : Fe :=
 carryF ⟨w64 (a.x0 + w64 (9007199254740916 - b.x0)), w64 (a.x1 + w64 (9007199254740988 - b.x1)), w64 (a.x2 + w64 (9007199254740988 - b.x2)), w64 (a.x3 + w64 (9007199254740988 - b.x3)), w64 (a.x4 + w64 (9007199254740988 - b.x4))⟩
def zeroF : Fe := ⟨0, 0, 0, 0, 0⟩
def oneF : Fe := ⟨1, 0, 0, 0, 0⟩
def negF (a : Fe) : Fe := subF zeroF a
theorem w64_ok (x0 x1 x2 x3 x4 : Int) : Ok ⟨w64 x0, w64 x1, w64 x2, w64 x3, w64 x4⟩ := by
 constructor <;> simp only [w64] <;> omega
theorem add_right (a b : Fe) : Right (addF a b) := carry_right (w64_ok ..)
theorem sub_right (a b : Fe) : Right (subF a b) := carry_right (w64_ok ..)
theorem neg_right (a : Fe) : Right (negF a) := sub_right ..
theorem m_lt (a : Fe) : m a < P := by
 unfold m P
 omega
theorem m_cast (a : Fe) : ((m a : Nat) : Int) = V a % (P : Int) := by
 unfold m P
 omega
theorem of_cast {x y : Nat} (hx : x < P) (h : ((x : Nat) : Int) % (P : Int) = ((y : Nat) : Int) % (P : Int)) : x = y % P := by
 unfold P at *
 omega
theorem add_m {a b : Fe} (ha : Right a) (hb : Right b) : m (addF a b) = (m a + m b) % P := by
 have e : V (⟨w64 (a.x0 + b.x0), w64 (a.x1 + b.x1), w64 (a.x2 + b.x2), w64 (a.x3 + b.x3), w64 (a.x4 + b.x4)⟩ : Fe) = V a + V b := by
  obtain ⟨n0, n1, n2, n3, n4, l0, l1, l2, l3, l4⟩ := ha
  obtain ⟨k0, k1, k2, k3, k4, j0, j1, j2, j3, j4⟩ := hb
  simp only [V, w64]
  omega
 unfold addF
 rw [carry_m]
 apply of_cast (m_lt _)
 rw [m_cast, e, Int.natCast_add, m_cast, m_cast, Int.emod_emod, ← Int.add_emod]
theorem sub_m {a b : Fe} (ha : Right a) (hb : Right b) : m (subF a b) = (m a + (P - m b)) % P := by
 have e : V (⟨w64 (a.x0 + w64 (9007199254740916 - b.x0)), w64 (a.x1 + w64 (9007199254740988 - b.x1)), w64 (a.x2 + w64 (9007199254740988 - b.x2)), w64 (a.x3 + w64 (9007199254740988 - b.x3)), w64 (a.x4 + w64 (9007199254740988 - b.x4))⟩ : Fe)
   = V a - V b + (P : Int) * 4 := by
  obtain ⟨n0, n1, n2, n3, n4, l0, l1, l2, l3, l4⟩ := ha
  obtain ⟨k0, k1, k2, k3, k4, j0, j1, j2, j3, j4⟩ := hb
  simp only [V, w64, P]
  omega
 have hb := m_lt b
 have ca := m_cast a
 have cb := m_cast b
 have h := m_cast (subF a b)
 rw [show m (subF a b) = _ from carry_m _] at h ⊢
 have hl := m_lt (⟨w64 (a.x0 + w64 (9007199254740916 - b.x0)), w64 (a.x1 + w64 (9007199254740988 - b.x1)), w64 (a.x2 + w64 (9007199254740988 - b.x2)), w64 (a.x3 + w64 (9007199254740988 - b.x3)), w64 (a.x4 + w64 (9007199254740988 - b.x4))⟩ : Fe)
 have h2 := m_cast (⟨w64 (a.x0 + w64 (9007199254740916 - b.x0)), w64 (a.x1 + w64 (9007199254740988 - b.x1)), w64 (a.x2 + w64 (9007199254740988 - b.x2)), w64 (a.x3 + w64 (9007199254740988 - b.x3)), w64 (a.x4 + w64 (9007199254740988 - b.x4))⟩ : Fe)
 rw [e, Int.add_mul_emod_self_left] at h2
 generalize m (⟨w64 (a.x0 + w64 (9007199254740916 - b.x0)), w64 (a.x1 + w64 (9007199254740988 - b.x1)), w64 (a.x2 + w64 (9007199254740988 - b.x2)), w64 (a.x3 + w64 (9007199254740988 - b.x3)), w64 (a.x4 + w64 (9007199254740988 - b.x4))⟩ : Fe) = M at *
 clear h e
 generalize V a = A at *
 generalize V b = B at *
 unfold P at *
 omega
def addS (S a b : Int) : Int := (S + a * b) % 340282366920938463463374607431768211456
def limbS (S : Int) : Int := S % 2251799813685248
def restS (S : Int) : Int := w64 (S / 2251799813685248)
def joinF (s0 s1 s2 s3 s4 : Int) : Fe :=
 carryF ⟨w64 (limbS s0 + w64 (19 * restS s4)), w64 (limbS s1 + restS s0), w64 (limbS s2 + restS s1), w64 (limbS s3 + restS s2), w64 (limbS s4 + restS s3)⟩
def s5 (a0 b0 a1 b1 a2 b2 a3 b3 a4 b4 : Int) : Int := addS (addS (addS (addS (addS 0 a0 b0) a1 b1) a2 b2) a3 b3) a4 b4
def s3 (a0 b0 a1 b1 a2 b2 : Int) : Int := addS (addS (addS 0 a0 b0) a1 b1) a2 b2
def mulF (a b : Fe) : Fe :=
 joinF (s5 a.x0 b.x0 a.x1 (w64 (19 * b.x4)) a.x2 (w64 (19 * b.x3)) a.x3 (w64 (19 * b.x2)) a.x4 (w64 (19 * b.x1)))
  (s5 a.x0 b.x1 a.x1 b.x0 a.x2 (w64 (19 * b.x4)) a.x3 (w64 (19 * b.x3)) a.x4 (w64 (19 * b.x2)))
  (s5 a.x0 b.x2 a.x1 b.x1 a.x2 b.x0 a.x3 (w64 (19 * b.x4)) a.x4 (w64 (19 * b.x3)))
  (s5 a.x0 b.x3 a.x1 b.x2 a.x2 b.x1 a.x3 b.x0 a.x4 (w64 (19 * b.x4)))
  (s5 a.x0 b.x4 a.x1 b.x3 a.x2 b.x2 a.x3 b.x1 a.x4 b.x0)
def sqF (a : Fe) : Fe :=
 joinF (s3 a.x0 a.x0 (w64 (2 * a.x1)) (w64 (19 * a.x4)) (w64 (2 * a.x2)) (w64 (19 * a.x3)))
  (s3 (w64 (2 * a.x0)) a.x1 (w64 (2 * a.x2)) (w64 (19 * a.x4)) a.x3 (w64 (19 * a.x3)))
  (s3 (w64 (2 * a.x0)) a.x2 a.x1 a.x1 (w64 (2 * a.x3)) (w64 (19 * a.x4)))
  (s3 (w64 (2 * a.x0)) a.x3 (w64 (2 * a.x1)) a.x2 a.x4 (w64 (19 * a.x4)))
  (s3 (w64 (2 * a.x0)) a.x4 (w64 (2 * a.x1)) a.x3 a.x2 a.x2)
theorem join_right (s0 s1 s2 s3 s4 : Int) : Right (joinF s0 s1 s2 s3 s4) := carry_right (w64_ok ..)
theorem mul_right (a b : Fe) : Right (mulF a b) := join_right ..
theorem sq_right (a : Fe) : Right (sqF a) := join_right ..
theorem join_V {s0 s1 s2 s3 s4 : Int} (h0 : 0 ≤ s0) (h1 : 0 ≤ s1) (h2 : 0 ≤ s2) (h3 : 0 ≤ s3) (h4 : 0 ≤ s4)
  (l0 : s0 < 2596148429267413814265248164610048) (l1 : s1 < 2596148429267413814265248164610048) (l2 : s2 < 2596148429267413814265248164610048) (l3 : s3 < 2596148429267413814265248164610048) (l4 : s4 < 162259276829213363391578010288128) :
  ∃ k : Int, V (joinF s0 s1 s2 s3 s4) = V ⟨s0, s1, s2, s3, s4⟩ + (P : Int) * k := by
 have e : V (⟨w64 (limbS s0 + w64 (19 * restS s4)), w64 (limbS s1 + restS s0), w64 (limbS s2 + restS s1), w64 (limbS s3 + restS s2), w64 (limbS s4 + restS s3)⟩ : Fe) = V ⟨s0, s1, s2, s3, s4⟩ - (P : Int) * (s4 / 2251799813685248) := by
  simp only [V, w64, limbS, restS, P]
  omega
 unfold joinF
 rw [carry_V, e]
 exact ⟨-(s4 / 2251799813685248) - w64 (limbS s4 + restS s3) / 2251799813685248, by simp only [Int.mul_sub, Int.mul_neg]; omega⟩
theorem prod_bd {x y : Int} (h0 : 0 ≤ x) (h1 : x < 4503599627370496) (k0 : 0 ≤ y) (k1 : y < 4503599627370496) : 0 ≤ x * y ∧ x * y < 20282409603651670423947251286016 := by
 refine ⟨Int.mul_nonneg h0 k0, ?_⟩
 have a : x * y ≤ 4503599627370495 * y := Int.mul_le_mul_of_nonneg_right (by omega) k0
 omega
theorem w64_in {x : Int} (h0 : 0 ≤ x) (h1 : x < 18446744073709551616) : w64 x = x := by unfold w64; omega
theorem s5_is {a0 b0 a1 b1 a2 b2 a3 b3 a4 b4 : Int} (h0 : 0 ≤ a0 * b0) (h1 : 0 ≤ a1 * b1) (h2 : 0 ≤ a2 * b2) (h3 : 0 ≤ a3 * b3) (h4 : 0 ≤ a4 * b4)
  (h : a0 * b0 + a1 * b1 + a2 * b2 + a3 * b3 + a4 * b4 < 340282366920938463463374607431768211456) :
  s5 a0 b0 a1 b1 a2 b2 a3 b3 a4 b4 = a0 * b0 + a1 * b1 + a2 * b2 + a3 * b3 + a4 * b4 := by
 unfold s5 addS
 omega
theorem s3_is {a0 b0 a1 b1 a2 b2 : Int} (h0 : 0 ≤ a0 * b0) (h1 : 0 ≤ a1 * b1) (h2 : 0 ≤ a2 * b2)
  (h : a0 * b0 + a1 * b1 + a2 * b2 < 340282366920938463463374607431768211456) :
  s3 a0 b0 a1 b1 a2 b2 = a0 * b0 + a1 * b1 + a2 * b2 := by
 unfold s3 addS
 omega
theorem poly (a0 a1 a2 a3 a4 b0 b1 b2 b3 b4 : Int) :
  (a0 + 2251799813685248 * a1 + 5070602400912917605986812821504 * a2 + 11417981541647679048466287755595961091061972992 * a3 + 25711008708143844408671393477458601640355247900524685364822016 * a4) *
   (b0 + 2251799813685248 * b1 + 5070602400912917605986812821504 * b2 + 11417981541647679048466287755595961091061972992 * b3 + 25711008708143844408671393477458601640355247900524685364822016 * b4)
  = (a0 * b0 + a1 * (19 * b4) + a2 * (19 * b3) + a3 * (19 * b2) + a4 * (19 * b1)) + 2251799813685248 * (a0 * b1 + a1 * b0 + a2 * (19 * b4) + a3 * (19 * b3) + a4 * (19 * b2))
   + 5070602400912917605986812821504 * (a0 * b2 + a1 * b1 + a2 * b0 + a3 * (19 * b4) + a4 * (19 * b3)) + 11417981541647679048466287755595961091061972992 * (a0 * b3 + a1 * b2 + a2 * b1 + a3 * b0 + a4 * (19 * b4))
   + 25711008708143844408671393477458601640355247900524685364822016 * (a0 * b4 + a1 * b3 + a2 * b2 + a3 * b1 + a4 * b0)
   + 57896044618658097711785492504343953926634992332820282019728792003956564819949 * ((a1 * b4 + a2 * b3 + a3 * b2 + a4 * b1) + 2251799813685248 * (a2 * b4 + a3 * b3 + a4 * b2) + 5070602400912917605986812821504 * (a3 * b4 + a4 * b3) + 11417981541647679048466287755595961091061972992 * (a4 * b4)) := by
 grind
theorem mul_m {a b : Fe} (ha : Right a) (hb : Right b) : m (mulF a b) = m a * m b % P := by
 have key : ∃ k : Int, V (mulF a b) = V a * V b + (P : Int) * k := by
  obtain ⟨n0, n1, n2, n3, n4, l0, l1, l2, l3, l4⟩ := ha
  obtain ⟨k0, k1, k2, k3, k4, j0, j1, j2, j3, j4⟩ := hb
  unfold mulF
  rw [w64_in (x := 19 * b.x1) (by omega) (by omega)]
  rw [w64_in (x := 19 * b.x2) (by omega) (by omega)]
  rw [w64_in (x := 19 * b.x3) (by omega) (by omega)]
  rw [w64_in (x := 19 * b.x4) (by omega) (by omega)]
  obtain ⟨p00, q00⟩ := prod_bd n0 l0 k0 j0
  obtain ⟨p01, q01⟩ := prod_bd n0 l0 k1 j1
  obtain ⟨p02, q02⟩ := prod_bd n0 l0 k2 j2
  obtain ⟨p03, q03⟩ := prod_bd n0 l0 k3 j3
  obtain ⟨p04, q04⟩ := prod_bd n0 l0 k4 j4
  obtain ⟨p10, q10⟩ := prod_bd n1 l1 k0 j0
  obtain ⟨p11, q11⟩ := prod_bd n1 l1 k1 j1
  obtain ⟨p12, q12⟩ := prod_bd n1 l1 k2 j2
  obtain ⟨p13, q13⟩ := prod_bd n1 l1 k3 j3
  obtain ⟨p14, q14⟩ := prod_bd n1 l1 k4 j4
  obtain ⟨p20, q20⟩ := prod_bd n2 l2 k0 j0
  obtain ⟨p21, q21⟩ := prod_bd n2 l2 k1 j1
  obtain ⟨p22, q22⟩ := prod_bd n2 l2 k2 j2
  obtain ⟨p23, q23⟩ := prod_bd n2 l2 k3 j3
  obtain ⟨p24, q24⟩ := prod_bd n2 l2 k4 j4
  obtain ⟨p30, q30⟩ := prod_bd n3 l3 k0 j0
  obtain ⟨p31, q31⟩ := prod_bd n3 l3 k1 j1
  obtain ⟨p32, q32⟩ := prod_bd n3 l3 k2 j2
  obtain ⟨p33, q33⟩ := prod_bd n3 l3 k3 j3
  obtain ⟨p34, q34⟩ := prod_bd n3 l3 k4 j4
  obtain ⟨p40, q40⟩ := prod_bd n4 l4 k0 j0
  obtain ⟨p41, q41⟩ := prod_bd n4 l4 k1 j1
  obtain ⟨p42, q42⟩ := prod_bd n4 l4 k2 j2
  obtain ⟨p43, q43⟩ := prod_bd n4 l4 k3 j3
  obtain ⟨p44, q44⟩ := prod_bd n4 l4 k4 j4
  have e14 : a.x1 * (19 * b.x4) = 19 * (a.x1 * b.x4) := by rw [Int.mul_left_comm]
  have e23 : a.x2 * (19 * b.x3) = 19 * (a.x2 * b.x3) := by rw [Int.mul_left_comm]
  have e24 : a.x2 * (19 * b.x4) = 19 * (a.x2 * b.x4) := by rw [Int.mul_left_comm]
  have e32 : a.x3 * (19 * b.x2) = 19 * (a.x3 * b.x2) := by rw [Int.mul_left_comm]
  have e33 : a.x3 * (19 * b.x3) = 19 * (a.x3 * b.x3) := by rw [Int.mul_left_comm]
  have e34 : a.x3 * (19 * b.x4) = 19 * (a.x3 * b.x4) := by rw [Int.mul_left_comm]
  have e41 : a.x4 * (19 * b.x1) = 19 * (a.x4 * b.x1) := by rw [Int.mul_left_comm]
  have e42 : a.x4 * (19 * b.x2) = 19 * (a.x4 * b.x2) := by rw [Int.mul_left_comm]
  have e43 : a.x4 * (19 * b.x3) = 19 * (a.x4 * b.x3) := by rw [Int.mul_left_comm]
  have e44 : a.x4 * (19 * b.x4) = 19 * (a.x4 * b.x4) := by rw [Int.mul_left_comm]
  rw [s5_is (by omega) (by omega) (by omega) (by omega) (by omega) (by omega)]
  rw [s5_is (by omega) (by omega) (by omega) (by omega) (by omega) (by omega)]
  rw [s5_is (by omega) (by omega) (by omega) (by omega) (by omega) (by omega)]
  rw [s5_is (by omega) (by omega) (by omega) (by omega) (by omega) (by omega)]
  rw [s5_is (by omega) (by omega) (by omega) (by omega) (by omega) (by omega)]
  have hp := poly a.x0 a.x1 a.x2 a.x3 a.x4 b.x0 b.x1 b.x2 b.x3 b.x4
  obtain ⟨k, hk⟩ := join_V (s0 := a.x0 * b.x0 + a.x1 * (19 * b.x4) + a.x2 * (19 * b.x3) + a.x3 * (19 * b.x2) + a.x4 * (19 * b.x1)) (s1 := a.x0 * b.x1 + a.x1 * b.x0 + a.x2 * (19 * b.x4) + a.x3 * (19 * b.x3) + a.x4 * (19 * b.x2)) (s2 := a.x0 * b.x2 + a.x1 * b.x1 + a.x2 * b.x0 + a.x3 * (19 * b.x4) + a.x4 * (19 * b.x3)) (s3 := a.x0 * b.x3 + a.x1 * b.x2 + a.x2 * b.x1 + a.x3 * b.x0 + a.x4 * (19 * b.x4)) (s4 := a.x0 * b.x4 + a.x1 * b.x3 + a.x2 * b.x2 + a.x3 * b.x1 + a.x4 * b.x0)
   (by omega) (by omega) (by omega) (by omega) (by omega) (by omega) (by omega) (by omega) (by omega) (by omega)
  rw [hk]
  refine ⟨k - ((a.x1 * b.x4 + a.x2 * b.x3 + a.x3 * b.x2 + a.x4 * b.x1) + 2251799813685248 * (a.x2 * b.x4 + a.x3 * b.x3 + a.x4 * b.x2) + 5070602400912917605986812821504 * (a.x3 * b.x4 + a.x4 * b.x3) + 11417981541647679048466287755595961091061972992 * (a.x4 * b.x4)), ?_⟩
  simp only [V, P] at hp ⊢
  rw [hp]
  omega
 obtain ⟨k, hk⟩ := key
 apply of_cast (m_lt _)
 rw [m_cast, hk, Int.add_mul_emod_self_left, Int.natCast_mul, m_cast, m_cast, Int.emod_emod, ← Int.mul_emod]
theorem sq_is {a : Fe} (ha : Right a) : sqF a = mulF a a := by
 obtain ⟨n0, n1, n2, n3, n4, l0, l1, l2, l3, l4⟩ := ha
 unfold sqF mulF
 rw [w64_in (x := 19 * a.x1) (by omega) (by omega)]
 rw [w64_in (x := 19 * a.x2) (by omega) (by omega)]
 rw [w64_in (x := 19 * a.x3) (by omega) (by omega)]
 rw [w64_in (x := 19 * a.x4) (by omega) (by omega)]
 rw [w64_in (x := 2 * a.x0) (by omega) (by omega)]
 rw [w64_in (x := 2 * a.x1) (by omega) (by omega)]
 rw [w64_in (x := 2 * a.x2) (by omega) (by omega)]
 rw [w64_in (x := 2 * a.x3) (by omega) (by omega)]
 obtain ⟨p00, q00⟩ := prod_bd n0 l0 n0 l0
 obtain ⟨p01, q01⟩ := prod_bd n0 l0 n1 l1
 obtain ⟨p02, q02⟩ := prod_bd n0 l0 n2 l2
 obtain ⟨p03, q03⟩ := prod_bd n0 l0 n3 l3
 obtain ⟨p04, q04⟩ := prod_bd n0 l0 n4 l4
 obtain ⟨p10, q10⟩ := prod_bd n1 l1 n0 l0
 obtain ⟨p11, q11⟩ := prod_bd n1 l1 n1 l1
 obtain ⟨p12, q12⟩ := prod_bd n1 l1 n2 l2
 obtain ⟨p13, q13⟩ := prod_bd n1 l1 n3 l3
 obtain ⟨p14, q14⟩ := prod_bd n1 l1 n4 l4
 obtain ⟨p20, q20⟩ := prod_bd n2 l2 n0 l0
 obtain ⟨p21, q21⟩ := prod_bd n2 l2 n1 l1
 obtain ⟨p22, q22⟩ := prod_bd n2 l2 n2 l2
 obtain ⟨p23, q23⟩ := prod_bd n2 l2 n3 l3
 obtain ⟨p24, q24⟩ := prod_bd n2 l2 n4 l4
 obtain ⟨p30, q30⟩ := prod_bd n3 l3 n0 l0
 obtain ⟨p31, q31⟩ := prod_bd n3 l3 n1 l1
 obtain ⟨p32, q32⟩ := prod_bd n3 l3 n2 l2
 obtain ⟨p33, q33⟩ := prod_bd n3 l3 n3 l3
 obtain ⟨p34, q34⟩ := prod_bd n3 l3 n4 l4
 obtain ⟨p40, q40⟩ := prod_bd n4 l4 n0 l0
 obtain ⟨p41, q41⟩ := prod_bd n4 l4 n1 l1
 obtain ⟨p42, q42⟩ := prod_bd n4 l4 n2 l2
 obtain ⟨p43, q43⟩ := prod_bd n4 l4 n3 l3
 obtain ⟨p44, q44⟩ := prod_bd n4 l4 n4 l4
 have c10 : a.x1 * a.x0 = a.x0 * a.x1 := Int.mul_comm ..
 have e14 : a.x1 * (19 * a.x4) = 19 * (a.x1 * a.x4) := by rw [Int.mul_left_comm]
 have c20 : a.x2 * a.x0 = a.x0 * a.x2 := Int.mul_comm ..
 have c21 : a.x2 * a.x1 = a.x1 * a.x2 := Int.mul_comm ..
 have e23 : a.x2 * (19 * a.x3) = 19 * (a.x2 * a.x3) := by rw [Int.mul_left_comm]
 have e24 : a.x2 * (19 * a.x4) = 19 * (a.x2 * a.x4) := by rw [Int.mul_left_comm]
 have c30 : a.x3 * a.x0 = a.x0 * a.x3 := Int.mul_comm ..
 have c31 : a.x3 * a.x1 = a.x1 * a.x3 := Int.mul_comm ..
 have c32 : a.x3 * a.x2 = a.x2 * a.x3 := Int.mul_comm ..
 have e32 : a.x3 * (19 * a.x2) = 19 * (a.x3 * a.x2) := by rw [Int.mul_left_comm]
 have e33 : a.x3 * (19 * a.x3) = 19 * (a.x3 * a.x3) := by rw [Int.mul_left_comm]
 have e34 : a.x3 * (19 * a.x4) = 19 * (a.x3 * a.x4) := by rw [Int.mul_left_comm]
 have c40 : a.x4 * a.x0 = a.x0 * a.x4 := Int.mul_comm ..
 have c41 : a.x4 * a.x1 = a.x1 * a.x4 := Int.mul_comm ..
 have e41 : a.x4 * (19 * a.x1) = 19 * (a.x4 * a.x1) := by rw [Int.mul_left_comm]
 have c42 : a.x4 * a.x2 = a.x2 * a.x4 := Int.mul_comm ..
 have e42 : a.x4 * (19 * a.x2) = 19 * (a.x4 * a.x2) := by rw [Int.mul_left_comm]
 have c43 : a.x4 * a.x3 = a.x3 * a.x4 := Int.mul_comm ..
 have e43 : a.x4 * (19 * a.x3) = 19 * (a.x4 * a.x3) := by rw [Int.mul_left_comm]
 have e44 : a.x4 * (19 * a.x4) = 19 * (a.x4 * a.x4) := by rw [Int.mul_left_comm]
 have f14 : 2 * a.x1 * (19 * a.x4) = 38 * (a.x1 * a.x4) := by grind
 have f23 : 2 * a.x2 * (19 * a.x3) = 38 * (a.x2 * a.x3) := by grind
 have f24 : 2 * a.x2 * (19 * a.x4) = 38 * (a.x2 * a.x4) := by grind
 have f34 : 2 * a.x3 * (19 * a.x4) = 38 * (a.x3 * a.x4) := by grind
 have g01 : 2 * a.x0 * a.x1 = 2 * (a.x0 * a.x1) := Int.mul_assoc ..
 have g02 : 2 * a.x0 * a.x2 = 2 * (a.x0 * a.x2) := Int.mul_assoc ..
 have g03 : 2 * a.x0 * a.x3 = 2 * (a.x0 * a.x3) := Int.mul_assoc ..
 have g12 : 2 * a.x1 * a.x2 = 2 * (a.x1 * a.x2) := Int.mul_assoc ..
 have g04 : 2 * a.x0 * a.x4 = 2 * (a.x0 * a.x4) := Int.mul_assoc ..
 have g13 : 2 * a.x1 * a.x3 = 2 * (a.x1 * a.x3) := Int.mul_assoc ..
 rw [s3_is (by omega) (by omega) (by omega) (by omega)]
 rw [s3_is (by omega) (by omega) (by omega) (by omega)]
 rw [s3_is (by omega) (by omega) (by omega) (by omega)]
 rw [s3_is (by omega) (by omega) (by omega) (by omega)]
 rw [s3_is (by omega) (by omega) (by omega) (by omega)]
 rw [s5_is (by omega) (by omega) (by omega) (by omega) (by omega) (by omega)]
 rw [s5_is (by omega) (by omega) (by omega) (by omega) (by omega) (by omega)]
 rw [s5_is (by omega) (by omega) (by omega) (by omega) (by omega) (by omega)]
 rw [s5_is (by omega) (by omega) (by omega) (by omega) (by omega) (by omega)]
 rw [s5_is (by omega) (by omega) (by omega) (by omega) (by omega) (by omega)]
 congr 1 <;> omega
theorem sq_m {a : Fe} (ha : Right a) : m (sqF a) = m a * m a % P := by rw [sq_is ha, mul_m ha ha]
def leastF (a : Fe) : Fe :=
 ⟨(m a : Int) % 2251799813685248, (m a : Int) / 2251799813685248 % 2251799813685248, (m a : Int) / 5070602400912917605986812821504 % 2251799813685248,
  (m a : Int) / 11417981541647679048466287755595961091061972992 % 2251799813685248, (m a : Int) / 25711008708143844408671393477458601640355247900524685364822016 % 2251799813685248⟩
def over1 (a : Fe) : Int := (a.x0 + 19) / 2251799813685248
def over2 (a : Fe) : Int := (a.x1 + over1 a) / 2251799813685248
def over3 (a : Fe) : Int := (a.x2 + over2 a) / 2251799813685248
def over4 (a : Fe) : Int := (a.x3 + over3 a) / 2251799813685248
def over5 (a : Fe) : Int := (a.x4 + over4 a) / 2251799813685248
def low0 (a : Fe) : Int := a.x0 + 19 * over5 a
def low1 (a : Fe) : Int := a.x1 + low0 a / 2251799813685248
def low2 (a : Fe) : Int := a.x2 + low1 a / 2251799813685248
def low3 (a : Fe) : Int := a.x3 + low2 a / 2251799813685248
def low4 (a : Fe) : Int := a.x4 + low3 a / 2251799813685248
structure Low (a : Fe) : Prop where
 n0 : 0 ≤ a.x0
 n1 : 0 ≤ a.x1
 n2 : 0 ≤ a.x2
 n3 : 0 ≤ a.x3
 n4 : 0 ≤ a.x4
 l0 : a.x0 < 2251799813840896
 l1 : a.x1 < 2251799813693440
 l2 : a.x2 < 2251799813693440
 l3 : a.x3 < 2251799813693440
 l4 : a.x4 < 2251799813693440
theorem carry_low {a : Fe} (h : Ok a) : Low (carryF a) := by
 obtain ⟨n0, n1, n2, n3, n4, l0, l1, l2, l3, l4⟩ := h
 constructor <;> simp only [carryF] <;> omega
theorem over_is {a : Fe} (h : Low a) : over5 a = (V a + 19) / 57896044618658097711785492504343953926634992332820282019728792003956564819968 := by
 obtain ⟨n0, n1, n2, n3, n4, l0, l1, l2, l3, l4⟩ := h
 simp only [over5, over4, over3, over2, over1, V]
 omega
theorem over_01 {a : Fe} (h : Low a) : 0 ≤ over5 a ∧ over5 a ≤ 1 := by
 rw [over_is h]
 obtain ⟨n0, n1, n2, n3, n4, l0, l1, l2, l3, l4⟩ := h
 simp only [V]
 omega
theorem m_low {a : Fe} (h : Low a) : (m a : Int) = V a - (P : Int) * over5 a := by
 have e := over_is h
 rw [m_cast]
 obtain ⟨n0, n1, n2, n3, n4, l0, l1, l2, l3, l4⟩ := h
 simp only [V, P] at e ⊢
 omega
theorem digits {M d0 d1 d2 d3 d4 : Int} (n0 : 0 ≤ d0) (n1 : 0 ≤ d1) (n2 : 0 ≤ d2) (n3 : 0 ≤ d3) (n4 : 0 ≤ d4)
  (l0 : d0 < 2251799813685248) (l1 : d1 < 2251799813685248) (l2 : d2 < 2251799813685248) (l3 : d3 < 2251799813685248) (l4 : d4 < 2251799813685248)
  (h : M = d0 + 2251799813685248 * d1 + 5070602400912917605986812821504 * d2 + 11417981541647679048466287755595961091061972992 * d3 + 25711008708143844408671393477458601640355247900524685364822016 * d4) :
  (⟨M % 2251799813685248, M / 2251799813685248 % 2251799813685248, M / 5070602400912917605986812821504 % 2251799813685248, M / 11417981541647679048466287755595961091061972992 % 2251799813685248, M / 25711008708143844408671393477458601640355247900524685364822016 % 2251799813685248⟩ : Fe) = ⟨d0, d1, d2, d3, d4⟩ := by
 have e1 : M / 2251799813685248 = d1 + 2251799813685248 * d2 + 5070602400912917605986812821504 * d3 + 11417981541647679048466287755595961091061972992 * d4 := by omega
 have e2 : M / 5070602400912917605986812821504 = d2 + 2251799813685248 * d3 + 5070602400912917605986812821504 * d4 := by omega
 have e3 : M / 11417981541647679048466287755595961091061972992 = d3 + 2251799813685248 * d4 := by omega
 have e4 : M / 25711008708143844408671393477458601640355247900524685364822016 = d4 := by omega
 rw [e1, e2, e3, e4]
 congr 1 <;> omega
theorem least_is {a : Fe} (h : Low a) : leastF a = ⟨low0 a % 2251799813685248, low1 a % 2251799813685248, low2 a % 2251799813685248, low3 a % 2251799813685248, low4 a % 2251799813685248⟩ := by
 have e := m_low h
 have o := over_01 h
 have hl := m_lt a
 obtain ⟨n0, n1, n2, n3, n4, l0, l1, l2, l3, l4⟩ := h
 unfold leastF
 refine digits (by omega) (by omega) (by omega) (by omega) (by omega) (by omega) (by omega) (by omega) (by omega) (by omega) ?_
 have hn : (0 : Int) ≤ (m a : Int) := by omega
 have hl' : (m a : Int) < 57896044618658097711785492504343953926634992332820282019728792003956564819949 := by unfold P at hl; omega
 clear hl
 rw [e] at hn hl' ⊢
 simp only [V, P] at hn hl' ⊢
 simp only [low4, low3, low2, low1, low0]
 generalize over5 a = o5 at *
 omega
theorem least_carry (a : Fe) : leastF (carryF a) = leastF a := by unfold leastF; rw [carry_m]
end Fe
end
namespace Fe
open Num
def eFull : Nat := 57896044618658097711785492504343953926634992332820282019728792003956564819948
def eInv : Nat := 57896044618658097711785492504343953926634992332820282019728792003956564819947
def eHalf : Nat := 28948022309329048855892746252171976963317496166410141009864396001978282409974
def eEighth : Nat := 7237005577332262213973186563042994240829374041602535252466099000494570602493
def eFourth : Nat := 14474011154664524427946373126085988481658748083205070504932198000989141204987
theorem eFull_is : eFull = P - 1 := by decide +kernel
theorem eInv_is : eInv + 1 = eFull := by decide +kernel
theorem eHalf_is : eHalf + eHalf = eFull := by decide +kernel
theorem eHalf_is' : 2 * eHalf = eFull := by decide +kernel
theorem eFourth_is' : 2 * eFourth = eHalf := by decide +kernel
theorem eEighth_is : eEighth + eEighth + 1 = eFourth := by decide +kernel
theorem P_prime : Prime P := p_prime
theorem P_2 : 2 ≤ P := P_prime.1
theorem not_dvd {x : Nat} (h : x % P ≠ 0) : ¬ P ∣ x := fun k => h (Nat.mod_eq_zero_of_dvd k)
theorem fermatP {x : Nat} (h : x % P ≠ 0) : x ^ eFull % P = 1 := by rw [eFull_is]; exact fermat P_prime (not_dvd h)
theorem mul_ne {x y : Nat} (hx : x % P ≠ 0) (hy : y % P ≠ 0) : x * y % P ≠ 0 := fun h => by
 rcases P_prime.dvd_mul (Nat.dvd_of_mod_eq_zero h) with k | k
 ·exact hx (Nat.mod_eq_zero_of_dvd k)
 ·exact hy (Nat.mod_eq_zero_of_dvd k)
theorem pow_ne {x : Nat} (hx : x % P ≠ 0) (n : Nat) : x ^ n % P ≠ 0 := by
 induction n with
 | zero => rw [Nat.pow_zero, Nat.mod_eq_of_lt P_2]; omega
 | succ n ih => rw [Nat.pow_succ]; exact mul_ne ih hx
theorem cong_mul {a b c d : Nat} (h : a % P = b % P) (k : c % P = d % P) : a * c % P = b * d % P := by rw [Nat.mul_mod, h, k, ← Nat.mul_mod]
theorem cong_pow {a b : Nat} (n : Nat) (h : a % P = b % P) : a ^ n % P = b ^ n % P := by rw [Nat.pow_mod, h, ← Nat.pow_mod]
theorem inv_is (x : Nat) : x * (x ^ eInv % P) % P = if x % P = 0 then 0 else 1 := by
 by_cases h : x % P = 0
 ·rw [if_pos h, Nat.mul_mod, h, Nat.zero_mul, Nat.zero_mod]
 ·rw [if_neg h, Nat.mul_mod_mod, ← Nat.pow_succ', show eInv.succ = eFull from eInv_is, fermatP h]
theorem sq_one {y : Nat} (h : y * y % P = 1) : y % P = 1 ∨ y % P = P - 1 := by
 have h2 := P_2
 rcases Nat.eq_zero_or_pos y with e | e
 ·subst e; rw [Nat.zero_mul, Nat.zero_mod] at h; omega
 ·obtain ⟨z, rfl⟩ : ∃ z, y = z + 1 := ⟨y - 1, by omega⟩
  have e1 : (z + 1) * (z + 1) = z * (z + 2) + 1 := by grind
  have hd : P ∣ z * (z + 2) := by
   have := Nat.sub_mod_eq_zero_of_mod_eq (m := (z + 1) * (z + 1)) (n := 1) (k := P) (by rw [h, Nat.mod_eq_of_lt h2])
   rw [e1, Nat.add_sub_cancel] at this
   exact Nat.dvd_of_mod_eq_zero this
  rcases P_prime.dvd_mul hd with ⟨k, hk⟩ | ⟨k, hk⟩
  ·left; rw [hk, Nat.mul_add_mod, Nat.mod_eq_of_lt h2]
  ·right
   have : z + 1 = P * k - 1 := by omega
   unfold P at *
   omega
theorem half_one {x : Nat} (h : x % P ≠ 0) : x ^ eHalf % P = 1 ∨ x ^ eHalf % P = P - 1 := by
 apply sq_one
 rw [← Nat.pow_add, eHalf_is]
 exact fermatP h
theorem square_half {x s : Nat} (hx : x % P ≠ 0) (h : s * s % P = x % P) : x ^ eHalf % P = 1 := by
 have hs : s % P ≠ 0 := fun e => hx (by rw [← h, Nat.mul_mod, e, Nat.zero_mul, Nat.zero_mod])
 have e : (s * s) ^ eHalf = s ^ eFull := by
  rw [show s * s = s ^ 2 from by rw [Nat.pow_succ, Nat.pow_one], ← Nat.pow_mul, eHalf_is']
 rw [← cong_pow _ h, e, fermatP hs]
def i0 : Nat := 19681161376707505956807079304988542015446066515923890162744021073123829784752
theorem i0_is : i0 * i0 % P = P - 1 := by decide +kernel
def gN (u v : Nat) : Nat := u * v ^ 3 * (u * v ^ 7) ^ eEighth
def epsN (u v : Nat) : Nat := (u * v ^ 7) ^ eFourth
theorem g_sq (u v : Nat) : gN u v * gN u v * v = u * epsN u v := by
 have e : epsN u v = (u * v ^ 7) ^ eEighth * (u * v ^ 7) ^ eEighth * (u * v ^ 7) := by
  unfold epsN
  rw [← Nat.pow_add, ← Nat.pow_succ, ← eEighth_is]
 rw [e]
 unfold gN
 generalize (u * v ^ 7) ^ eEighth = Y
 grind
def FitsN (r u v : Nat) : Prop := r * r * v % P = u % P
instance (r u v : Nat) : Decidable (FitsN r u v) := inferInstanceAs (Decidable (_ = _))
theorem minus_minus (x : Nat) : x * (P - 1) * (P - 1) % P = x % P := by
 have e : x * (P - 1) * (P - 1) = x + P * (x * (P - 2)) := by
  obtain ⟨q, hq⟩ : ∃ q, P = q + 2 := ⟨P - 2, by have := P_2; omega⟩
  rw [hq, show q + 2 - 1 = q + 1 by omega, show q + 2 - 2 = q by omega]
  grind
 rw [e, Nat.add_mul_mod_self_left]
theorem fits_eps {u v : Nat} (h : epsN u v % P = 1 ∨ epsN u v % P = P - 1) : FitsN (gN u v) u v ∨ FitsN (gN u v * i0) u v := by
 have h2 := P_2
 rcases h with h | h
 ·left
  unfold FitsN
  rw [g_sq, Nat.mul_mod, h, Nat.mul_one, Nat.mod_mod]
 ·right
  unfold FitsN
  have e : gN u v * i0 * (gN u v * i0) * v = (gN u v * gN u v * v) * (i0 * i0) := by generalize gN u v = g; grind
  have c1 : epsN u v % P = (P - 1) % P := by rw [h, Nat.mod_eq_of_lt (by omega)]
  have c2 : i0 * i0 % P = (P - 1) % P := by rw [i0_is, Nat.mod_eq_of_lt (by omega)]
  rw [e, g_sq, cong_mul (cong_mul (rfl : u % P = u % P) c1) c2, minus_minus]
theorem fits_zero {u v : Nat} (h : u % P = 0) : FitsN (gN u v) u v := by
 unfold FitsN
 rw [g_sq, Nat.mul_mod, h, Nat.zero_mul, Nat.zero_mod]
theorem fits_any {u v t : Nat} (h : t * t * v % P = u % P) : FitsN (gN u v) u v ∨ FitsN (gN u v * i0) u v := by
 by_cases hu : u % P = 0
 ·exact Or.inl (fits_zero hu)
 have hv : v % P ≠ 0 := fun e => hu (by rw [← h, Nat.mul_mod, e, Nat.mul_zero, Nat.zero_mod])
 have ht : t % P ≠ 0 := fun e => hu (by rw [← h, Nat.mul_assoc, Nat.mul_mod, e, Nat.zero_mul, Nat.zero_mod])
 have hw := mul_ne ht (pow_ne hv 4)
 apply fits_eps
 have e : epsN u v % P = (t * v ^ 4) ^ eHalf % P := by
  have c : u * v ^ 7 % P = (t * v ^ 4) ^ 2 % P := by
   rw [cong_mul h.symm (rfl : v ^ 7 % P = v ^ 7 % P)]
   congr 1
   grind
  unfold epsN
  rw [cong_pow _ c, ← Nat.pow_mul, eFourth_is']
 rw [e]
 exact half_one hw
end Fe
section
open Go.Shelf
def lays264_ren : Go.Shelf.Ren := ⟨fun | 264 => 79 | n => n, fun | 53 => 32 | 46 => 87 | n => n, fun | n => n⟩
theorem lays264 : Go.Proofs.Lays.n264 Tryz.prog lays264_ren := {
 mixed := by kernel_rfl
 f264 := Tryz.func79.trans (congrArg some (by kernel_rfl))
 t46 := Tryz.underlying87
 a46 := Tryz.isAgg87
 z46 := Tryz.sizeOf87
 v46 := Tryz.zeroValue87
 t53 := Tryz.underlying32
 a53 := Tryz.isAgg32
 z53 := Tryz.sizeOf32
 v53 := Tryz.zeroValue32 }
theorem mul64 (x y : Int) (hx0 : 0 ≤ x) (hy0 : 0 ≤ y) (hx : x < 18446744073709551616) (hy : y < 18446744073709551616) (w : World) :
  Calls Tryz.prog 79 #[.int .u64 x, .int .u64 y] w fun e w' => e = .returned (.tuple #[.int .u64 (x * y / 18446744073709551616), .int .u64 (x * y % 18446744073709551616)]) ∧ w = w' := by
 obtain ⟨x, rfl⟩ := Int.eq_ofNat_of_zero_le hx0
 obtain ⟨y, rfl⟩ := Int.eq_ofNat_of_zero_le hy0
 refine (Any.bits_Mul64 lays264 x y (by omega) (by omega) w).mono ?_
 rintro e w' ⟨rfl, rfl⟩
 refine ⟨?_, rfl⟩
 rw [Int.natCast_ediv, Int.natCast_emod, Int.natCast_mul]
 rfl
theorem add64 (x y : Int) (hx0 : 0 ≤ x) (hy0 : 0 ≤ y) (w : World) : (callFunc 80 #[.int .u64 x, .int .u64 y, .int .u64 0]).run Tryz.prog w =
  .ok (.value (.tuple #[.int .u64 ((x + y) % 18446744073709551616), .int .u64 ((x + y) / 18446744073709551616)])) w := by
 have h := run_add64 (P := Tryz.prog) x y 0 (by omega) (by omega) (by omega) (by omega) (w := w)
 rw [run_callFunc_extern Tryz.func80 (by kernel_rfl) (by kernel_rfl) (by kernel_rfl) (e := add64Entry) (by kernel_rfl), h]
 simp only [Result.andThen, Int.add_zero]
end
section
open Go.RowKit
def Fe.v (a : Fe) : Value := .agg #[.int .u64 a.x0, .int .u64 a.x1, .int .u64 a.x2, .int .u64 a.x3, .int .u64 a.x4]
theorem mask51 (x : Int) (h0 : 0 ≤ x) (h1 : x < 18446744073709551616) : bits .and .u64 x 2251799813685247 = x % 2251799813685248 := by
 obtain ⟨x, rfl⟩ := Int.eq_ofNat_of_zero_le h0
 have e : (2251799813685247 : Int) = ((2251799813685247 : Nat) : Int) := rfl
 rw [e, u64_and_nat _ _ (by omega) (by decide), show (2251799813685247 : Nat) = 2 ^ 51 - 1 from rfl, Nat.and_two_pow_sub_one_eq_mod]
 omega
theorem wrapw (x : Int) : IntKind.u64.wrap x = Fe.w64 x := IntKind.wrap_u64 x
theorem carry_cell (x y : Int) (h0 : 0 ≤ x) (h1 : x < 18446744073709551616) (k0 : 0 ≤ y) (k1 : y < 18446744073709551616) :
  IntKind.u64.wrap (bits .and .u64 x 2251799813685247 + y / 2251799813685248) = x % 2251799813685248 + y / 2251799813685248 := by
 rw [mask51 x h0 h1, wrapw, Fe.w64_in] <;> omega
theorem carry_cell0 (x y : Int) (h0 : 0 ≤ x) (h1 : x < 18446744073709551616) (k0 : 0 ≤ y) (k1 : y < 18446744073709551616) :
  IntKind.u64.wrap (bits .and .u64 x 2251799813685247 + 19 * (y / 2251799813685248)) = x % 2251799813685248 + 19 * (y / 2251799813685248) := by
 rw [mask51 x h0 h1, wrapw, Fe.w64_in] <;> omega
set_option maxHeartbeats 400000 in
theorem carry_any (x0 x1 x2 x3 x4 : Int) (w : World) (n0 : 0 ≤ x0) (n1 : 0 ≤ x1) (n2 : 0 ≤ x2) (n3 : 0 ≤ x3) (n4 : 0 ≤ x4)
  (l0 : x0 < 18446744073709551616) (l1 : x1 < 18446744073709551616) (l2 : x2 < 18446744073709551616) (l3 : x3 < 18446744073709551616) (l4 : x4 < 18446744073709551616) :
  Calls Tryz.prog 88 #[.agg #[.int .u64 x0, .int .u64 x1, .int .u64 x2, .int .u64 x3, .int .u64 x4]] w fun e w' => e = .returned (Fe.carryF ⟨x0, x1, x2, x3, x4⟩).v ∧ w.grownBy w' none := by
 have H0 := Lib.hid (carry_cell0 x0 x4 n0 l0 n4 l4)
 have H1 := Lib.hid (carry_cell x1 x0 n1 l1 n0 l0)
 have H2 := Lib.hid (carry_cell x2 x1 n2 l2 n1 l1)
 have H3 := Lib.hid (carry_cell x3 x2 n3 l3 n2 l2)
 have H4 := Lib.hid (carry_cell x4 x3 n4 l4 n3 l3)
 go_enter Tryz.func88, Tryz.ntmps88
 go_wp2
 refine bodyPost_ret (v := (Fe.carryF ⟨x0, x1, x2, x3, x4⟩).v) ?_ rfl ⟨rfl, gb_alloc (gb_alloc (gb_refl _ _) _) _⟩
 simp [results, Tryz.results88, go_sem]
 rw [H0.out, H1.out, H2.out, H3.out, H4.out]
 rfl
theorem carry_fe (a : Fe) (w : World) (h : a.Ok) : Calls Tryz.prog 88 #[a.v] w fun e w' => e = .returned (Fe.carryF a).v ∧ w.grownBy w' none :=
 carry_any a.x0 a.x1 a.x2 a.x3 a.x4 w h.n0 h.n1 h.n2 h.n3 h.n4 h.l0 h.l1 h.l2 h.l3 h.l4
def sumV (S : Int) : Value := .agg #[.int .u64 (S / 18446744073709551616), .int .u64 (S % 18446744073709551616)]
structure Is128 (S : Int) : Prop where
 n : 0 ≤ S
 l : S < 340282366920938463463374607431768211456
theorem rest_bits (h l : Int) (h0 : 0 ≤ h) (h1 : h < 18446744073709551616) (l0 : 0 ≤ l) (l1 : l < 18446744073709551616) :
  bits .or .u64 (IntKind.u64.wrap (h * 8192)) (l / 2251799813685248) = Fe.restS (h * 18446744073709551616 + l) := by
 obtain ⟨h, rfl⟩ := Int.eq_ofNat_of_zero_le h0
 obtain ⟨l, rfl⟩ := Int.eq_ofNat_of_zero_le l0
 have e1 : IntKind.u64.wrap ((h : Int) * 8192) = ((2 ^ 13 * (h % 2251799813685248) : Nat) : Int) := by rw [wrapw]; unfold Fe.w64; omega
 have e2 : (l : Int) / 2251799813685248 = ((l / 2251799813685248 : Nat) : Int) := by omega
 rw [e1, e2, u64_or_nat _ _ (by omega) (by omega), ← Nat.two_pow_add_eq_or_of_lt (by omega)]
 unfold Fe.restS Fe.w64
 omega
theorem limb_bits (h l : Int) (l0 : 0 ≤ l) (l1 : l < 18446744073709551616) : bits .and .u64 l 2251799813685247 = Fe.limbS (h * 18446744073709551616 + l) := by
 rw [mask51 l l0 l1]; unfold Fe.limbS; omega
set_option maxHeartbeats 400000 in
theorem limb_any (h l : Int) (w : World) (l0 : 0 ≤ l) (l1 : l < 18446744073709551616) :
  Calls Tryz.prog 89 #[.agg #[.int .u64 h, .int .u64 l]] w fun e w' => e = .returned (.int .u64 (Fe.limbS (h * 18446744073709551616 + l))) ∧ w' = w.alloc (.cells #[.int .u64 h, .int .u64 l] 107) := by
 have H0 := Lib.hid (limb_bits h l l0 l1)
 go_enter Tryz.func89, Tryz.ntmps89
 go_wp2
 go_ret
 exact ⟨by rw [H0.out]; rfl, rfl⟩
set_option maxHeartbeats 400000 in
theorem rest_any (h l : Int) (w : World) (h0 : 0 ≤ h) (h1 : h < 18446744073709551616) (l0 : 0 ≤ l) (l1 : l < 18446744073709551616) :
  Calls Tryz.prog 90 #[.agg #[.int .u64 h, .int .u64 l]] w fun e w' => e = .returned (.int .u64 (Fe.restS (h * 18446744073709551616 + l))) ∧ w' = w.alloc (.cells #[.int .u64 h, .int .u64 l] 107) := by
 have H0 := Lib.hid (rest_bits h l h0 h1 l0 l1)
 go_enter Tryz.func90, Tryz.ntmps90
 go_wp2
 go_ret
 exact ⟨by rw [H0.out]; rfl, rfl⟩
theorem add_step (h l a b : Int) :
  (l + a * b) % 18446744073709551616 = Fe.addS (h * 18446744073709551616 + l) a b % 18446744073709551616 ∧
  IntKind.u64.wrap (h + IntKind.u64.wrap (a * b / 18446744073709551616 + (l + a * b % 18446744073709551616) / 18446744073709551616)) = Fe.addS (h * 18446744073709551616 + l) a b / 18446744073709551616 := by
 rw [wrapw, wrapw]
 unfold Fe.addS Fe.w64
 generalize a * b = p at *
 omega
set_option maxHeartbeats 400000 in
theorem wadd_any (B : Nat) (h l a b : Int) (w : World) (T : TypeId) (l0 : 0 ≤ l)
  (a0 : 0 ≤ a) (a1 : a < 18446744073709551616) (b0 : 0 ≤ b) (b1 : b < 18446744073709551616) (hb : Blk w B T [.int .u64 h, .int .u64 l]) :
  Calls Tryz.prog 91 #[.pointer (some ⟨B, 0, none⟩), .int .u64 a, .int .u64 b] w fun e w' => e = .returned (.tuple #[]) ∧ w.grownBy w' (some B) ∧
   Blk w' B T [.int .u64 (Fe.addS (h * 18446744073709551616 + l) a b / 18446744073709551616), .int .u64 (Fe.addS (h * 18446744073709551616 + l) a b % 18446744073709551616)] := by
 have H := Lib.hid (add_step h l a b)
 have q0 : 0 ≤ a * b % 18446744073709551616 := by omega
 have c0 := hb.cell (i := 0) rfl
 have c1 := hb.cell (i := 1) rfl
 have f0 := hb.free 0
 have f1 := hb.free 1
 go_enter Tryz.func91, Tryz.ntmps91
 go_wp2_with (first | (go_at_call 79; refine (mul64 _ _ a0 b0 a1 b1 _).mono ?_; rintro e w' ⟨rfl, rfl⟩) | simp only [add64 _ _ l0 q0])
 go_end0
 refine ⟨rfl, gb_set (gb_set (gb_refl _ _) _ _) _ _, ?_⟩
 rw [H.out.1, H.out.2]
 exact (hb.set 1 _).set 0 _
def flat : List (Int × Int) → List Value
 | [] => []
 | p :: r => .int .u64 p.1 :: .int .u64 p.2 :: flat r
theorem flat_get (ps : List (Int × Int)) (k : Nat) (h : k < ps.length) : (flat ps)[k * 2]? = some (.int .u64 (ps.getD k (0, 0)).1) ∧ (flat ps)[k * 2 + 1]? = some (.int .u64 (ps.getD k (0, 0)).2) := by
 induction ps generalizing k with
 | nil => simp at h
 | cons p r ih =>
  cases k with
  | zero => exact ⟨rfl, rfl⟩
  | succ k =>
   have := ih k (by simpa using h)
   rw [show (k + 1) * 2 = k * 2 + 1 + 1 by omega]
   simpa [flat] using this
def sumL (ps : List (Int × Int)) : Int := ps.foldl (fun S p => Fe.addS S p.1 p.2) 0
theorem sumL_snoc (ps : List (Int × Int)) (k : Nat) (h : k < ps.length) : sumL (ps.take (k + 1)) = Fe.addS (sumL (ps.take k)) (ps.getD k (0, 0)).1 (ps.getD k (0, 0)).2 := by
 have e : ps.getD k (0, 0) = ps[k] := by rw [List.getD_eq_getElem?_getD, List.getElem?_eq_getElem h]; rfl
 unfold sumL
 rw [List.take_succ_eq_append_getElem h, List.foldl_append, e]
 rfl
theorem addS_bd (S a b : Int) : 0 ≤ Fe.addS S a b ∧ Fe.addS S a b < 340282366920938463463374607431768211456 := by unfold Fe.addS; omega
theorem sumL_bd (ps : List (Int × Int)) : 0 ≤ sumL ps ∧ sumL ps < 340282366920938463463374607431768211456 := by
 rcases List.eq_nil_or_concat ps with rfl | ⟨l, x, rfl⟩
 ·unfold sumL; simp
 ·unfold sumL; rw [List.concat_eq_append, List.foldl_append]; exact addS_bd ..
theorem some_ne {a b : Nat} (h : a ≠ b) : some a ≠ some b := fun e => h (Option.some.inj e)
theorem halves (S : Int) : S / 18446744073709551616 * 18446744073709551616 + S % 18446744073709551616 = S := by omega
set_option maxHeartbeats 800000 in
theorem sumUp_any (PB n : Nat) (ps : List (Int × Int)) (w : World) (T : TypeId) (hn : ps.length = n) (hn2 : n ≤ 1000) (hb : Blk w PB T (flat ps))
  (hp : ∀ p ∈ ps, 0 ≤ p.1 ∧ p.1 < 18446744073709551616 ∧ 0 ≤ p.2 ∧ p.2 < 18446744073709551616) :
  Calls Tryz.prog 62 #[.slice (some ⟨PB, 0, none⟩) n n] w fun e w' => e = .returned (sumV (sumL ps)) ∧ w.grownBy w' none := by
 have hlt := hb.lt
 have Hn := Lib.hid hn; clear hn
 go_enter Tryz.func62, Tryz.ntmps62
 go_wp2
 go_loopw [8] (fun i wr => ∃ k : Nat, k ≤ n ∧ i = .int .i64 k ∧ w.grownBy wr none ∧ Blk wr PB T (flat ps) ∧ w.heap.size + 1 < wr.heap.size ∧
   Blk wr w.heap.size 107 [.int .u64 0, .int .u64 0] ∧
   Blk wr (w.heap.size + 1) 107 [.int .u64 (sumL (ps.take k) / 18446744073709551616), .int .u64 (sumL (ps.take k) % 18446744073709551616)]) (fun i _ => n - (intOf i).toNat)
 case atStart =>
  refine ⟨0, by omega, rfl, gb_alloc (gb_alloc (gb_refl _ _) _) _, (hb.alloc _).alloc _, by simp, ?_, ?_⟩
  ·exact (Blk.new w [.int .u64 0, .int .u64 0] 107).alloc _
  ·have := Blk.new (w.alloc (.cells #[.int .u64 0, .int .u64 0] 107)) [.int .u64 0, .int .u64 0] 107
   simpa [sumL] using this
 case round =>
  obtain ⟨k, hk, rfl, hg, hB, hsz, hR, hS⟩ := hrel
  by_cases hkn : k < n
  ·have hkl : k < ps.length := by rw [Hn.out]; exact hkn
   have hsb := sumL_bd (ps.take k)
   have Hs := Lib.hid (sumL_snoc ps k hkl)
   have hget := flat_get ps k hkl
   have hmem : ps.getD k (0, 0) ∈ ps := by rw [List.getD_eq_getElem?_getD, List.getElem?_eq_getElem hkl]; exact List.getElem_mem hkl
   obtain ⟨p0, p1, p2, p3⟩ := hp _ hmem
   obtain ⟨S, hS0⟩ : ∃ S, S = sumL (ps.take k) := ⟨_, rfl⟩
   rw [← hS0] at hsb hS
   have HS0 := Lib.hid hS0; clear hS0
   obtain ⟨a, ha⟩ : ∃ a, a = (ps.getD k (0, 0)).1 := ⟨_, rfl⟩
   obtain ⟨b, hbb⟩ : ∃ b, b = (ps.getD k (0, 0)).2 := ⟨_, rfl⟩
   rw [← ha, ← hbb] at hget
   rw [← ha] at p0 p1
   rw [← hbb] at p2 p3
   have Ha := Lib.hid ha; clear ha
   have Hb := Lib.hid hbb; clear hbb
   have c0 := hB.cell hget.1
   have c1 := hB.cell hget.2
   clear hget hmem hkl
   have s0 : 0 ≤ S / 18446744073709551616 := by omega
   have s1 : S / 18446744073709551616 < 18446744073709551616 := by omega
   have s2 : 0 ≤ S % 18446744073709551616 := by omega
   go_wp2_with (go_at_call 91; refine (wadd_any (w.heap.size + 1) _ _ a b _ 107 s2 p0 p1 p2 p3 (hS.alloc _)).mono ?_; rintro e w1 ⟨rfl, hg1, hS1⟩)
   have hsz1 : w.heap.size + 1 < w1.heap.size := by have := hg1.size; simp at this; omega
   go_roundw
   case rel =>
    refine ⟨k + 1, by omega, by go_num, gb_then (gb_alloc hg _) hg1 (by omega), (hB.alloc _).grown hg1 (some_ne (by omega)), hsz1, (hR.alloc _).grown hg1 (some_ne (by omega)), ?_⟩
    rw [Hs.out, ← HS0.out, ← Ha.out, ← Hb.out]
    rw [halves] at hS1
    exact hS1
   case measure => simp [intOf]; omega
  ·obtain rfl : k = n := by omega
   have e : ps.take k = ps := by rw [List.take_of_length_le]; rw [Hn.out]; omega
   rw [e] at hS
   clear e
   obtain ⟨S, hS0⟩ : ∃ S, S = sumL ps := ⟨_, rfl⟩
   rw [← hS0] at hS
   have HS0 := Lib.hid hS0; clear hS0
   have c0 := hS.cell (i := 0) rfl
   have c1 := hS.cell (i := 1) rfl
   have r0 := hR.cell (i := 0) rfl
   have r1 := hR.cell (i := 1) rfl
   have z0 := hR.free 0
   have z1 := hR.free 1
   go_wp2
   refine bodyPost_ret (v := .agg #[.int .u64 (S / 18446744073709551616), .int .u64 (S % 18446744073709551616)]) ?_ rfl ⟨by rw [← HS0.out]; rfl, ?_⟩
   ·simp [results, Tryz.results62, go_sem, r0, r1]
   ·exact gb_set_new (gb_set_new hg (Nat.le_refl _) _) (Nat.le_refl _) _
end
section
open Go.RowKit
theorem limb_gb (h l : Int) (w : World) (l0 : 0 ≤ l) (l1 : l < 18446744073709551616) :
  Calls Tryz.prog 89 #[.agg #[.int .u64 h, .int .u64 l]] w fun e w' => e = .returned (.int .u64 (Fe.limbS (h * 18446744073709551616 + l))) ∧ w.grownBy w' none :=
 (limb_any h l w l0 l1).mono fun _ _ ⟨he, hw⟩ => ⟨he, hw ▸ gb_alloc (gb_refl _ _) _⟩
theorem rest_gb (h l : Int) (w : World) (h0 : 0 ≤ h) (h1 : h < 18446744073709551616) (l0 : 0 ≤ l) (l1 : l < 18446744073709551616) :
  Calls Tryz.prog 90 #[.agg #[.int .u64 h, .int .u64 l]] w fun e w' => e = .returned (.int .u64 (Fe.restS (h * 18446744073709551616 + l))) ∧ w.grownBy w' none :=
 (rest_any h l w h0 h1 l0 l1).mono fun _ _ ⟨he, hw⟩ => ⟨he, hw ▸ gb_alloc (gb_refl _ _) _⟩
theorem Blk.newAt (w : World) {B : Nat} (L : List Value) (T : TypeId) (h : w.heap.size = B) : Blk (w.alloc (.cells L.toArray T)) B T L := h ▸ Blk.new w L T
def Room5 (w : World) (B : Nat) (T : TypeId) : Prop := ∃ u0 u1 u2 u3 u4 : Value, Blk w B T [u0, u1, u2, u3, u4]
theorem Room5.grown {w w' : World} {B : Nat} {T : TypeId} {row : Option Nat} (h : Room5 w B T) (hg : w.grownBy w' row) (hr : some B ≠ row) : Room5 w' B T :=
 let ⟨_, _, _, _, _, hb⟩ := h; ⟨_, _, _, _, _, hb.grown hg hr⟩
theorem Room5.set5 {w : World} {B : Nat} {T : TypeId} (h : Room5 w B T) (v0 v1 v2 v3 v4 : Value) :
  Blk (((((w.setCell ⟨B, 0, none⟩ v0).setCell ⟨B, 1, none⟩ v1).setCell ⟨B, 2, none⟩ v2).setCell ⟨B, 3, none⟩ v3).setCell ⟨B, 4, none⟩ v4) B T [v0, v1, v2, v3, v4] :=
 let ⟨_, _, _, _, _, hb⟩ := h; ((((hb.set 0 v0).set 1 v1).set 2 v2).set 3 v3).set 4 v4
def FeOut (F : Fe) (w : World) (e : Ending) (w' : World) : Prop :=
 ∃ r : Fe, Hid (r = F) ∧ e = .returned (.agg #[.int .u64 r.x0, .int .u64 r.x1, .int .u64 r.x2, .int .u64 r.x3, .int .u64 r.x4]) ∧ w.grownBy w' none
theorem feOut_of {F : Fe} {w : World} {e : Ending} {w' : World} (h : e = .returned F.v ∧ w.grownBy w' none) : FeOut F w e w' := ⟨F, Lib.hid rfl, h.1, h.2⟩
theorem feOut_is {F : Fe} {w : World} {e : Ending} {w' : World} (h : FeOut F w e w') : e = .returned F.v ∧ w.grownBy w' none := by
 obtain ⟨r, hr, he, hg⟩ := h
 have := hr.out
 subst this
 exact ⟨he, hg⟩
theorem carry_w (y0 y1 y2 y3 y4 : Int) (w : World) :
  Calls Tryz.prog 88 #[.agg #[.int .u64 (IntKind.u64.wrap y0), .int .u64 (IntKind.u64.wrap y1), .int .u64 (IntKind.u64.wrap y2), .int .u64 (IntKind.u64.wrap y3), .int .u64 (IntKind.u64.wrap y4)]] w (FeOut (Fe.carryF ⟨Fe.w64 y0, Fe.w64 y1, Fe.w64 y2, Fe.w64 y3, Fe.w64 y4⟩) w) := by
 simp only [wrapw]
 exact (carry_fe ⟨Fe.w64 y0, Fe.w64 y1, Fe.w64 y2, Fe.w64 y3, Fe.w64 y4⟩ w (Fe.w64_ok ..)).mono fun _ _ => feOut_of
abbrev JoinS (h0 l0 h1 l1 h2 l2 h3 l3 h4 l4 : Int) (w w' : World) : Prop := Blk w' w.heap.size 111 [.int .u64 h0, .int .u64 l0, .int .u64 h1, .int .u64 l1, .int .u64 h2, .int .u64 l2, .int .u64 h3, .int .u64 l3, .int .u64 h4, .int .u64 l4] ∧ Room5 w' (w.heap.size + 1) 34 ∧ w.grownBy w' none ∧ w'.cell? ⟨w.heap.size, 0, none⟩ = some (.int .u64 h0) ∧ w'.cell? ⟨w.heap.size, 1, none⟩ = some (.int .u64 l0) ∧ w'.cell? ⟨w.heap.size, 2, none⟩ = some (.int .u64 h1) ∧ w'.cell? ⟨w.heap.size, 3, none⟩ = some (.int .u64 l1) ∧ w'.cell? ⟨w.heap.size, 4, none⟩ = some (.int .u64 h2) ∧ w'.cell? ⟨w.heap.size, 5, none⟩ = some (.int .u64 l2) ∧ w'.cell? ⟨w.heap.size, 6, none⟩ = some (.int .u64 h3) ∧ w'.cell? ⟨w.heap.size, 7, none⟩ = some (.int .u64 l3) ∧ w'.cell? ⟨w.heap.size, 8, none⟩ = some (.int .u64 h4) ∧ w'.cell? ⟨w.heap.size, 9, none⟩ = some (.int .u64 l4)
theorem joinS_mk {h0 l0 h1 l1 h2 l2 h3 l3 h4 l4 : Int} {w w' : World} (hA : Blk w' w.heap.size 111 [.int .u64 h0, .int .u64 l0, .int .u64 h1, .int .u64 l1, .int .u64 h2, .int .u64 l2, .int .u64 h3, .int .u64 l3, .int .u64 h4, .int .u64 l4]) (hB : Room5 w' (w.heap.size + 1) 34) (hG : w.grownBy w' none) : JoinS h0 l0 h1 l1 h2 l2 h3 l3 h4 l4 w w' :=
 ⟨hA, hB, hG, hA.cell (i := 0) rfl, hA.cell (i := 1) rfl, hA.cell (i := 2) rfl, hA.cell (i := 3) rfl, hA.cell (i := 4) rfl, hA.cell (i := 5) rfl, hA.cell (i := 6) rfl, hA.cell (i := 7) rfl, hA.cell (i := 8) rfl, hA.cell (i := 9) rfl⟩
theorem joinS_keep {h0 l0 h1 l1 h2 l2 h3 l3 h4 l4 : Int} {w w1 w2 : World} (hg : w1.grownBy w2 none) (hS : JoinS h0 l0 h1 l1 h2 l2 h3 l3 h4 l4 w w1) : JoinS h0 l0 h1 l1 h2 l2 h3 l3 h4 l4 w w2 :=
 joinS_mk (hS.1.grown hg (by simp)) (hS.2.1.grown hg (by simp)) (gb_trans hS.2.2.1 hg)
theorem joinS_set {h0 l0 h1 l1 h2 l2 h3 l3 h4 l4 : Int} {w w1 : World} (hS : JoinS h0 l0 h1 l1 h2 l2 h3 l3 h4 l4 w w1) (v0 v1 v2 v3 v4 : Value) :
  JoinS h0 l0 h1 l1 h2 l2 h3 l3 h4 l4 w (((((w1.setCell ⟨w.heap.size + 1, 0, none⟩ v0).setCell ⟨w.heap.size + 1, 1, none⟩ v1).setCell ⟨w.heap.size + 1, 2, none⟩ v2).setCell ⟨w.heap.size + 1, 3, none⟩ v3).setCell ⟨w.heap.size + 1, 4, none⟩ v4) :=
 joinS_mk (((((hS.1.other (by simp) v0).other (by simp) v1).other (by simp) v2).other (by simp) v3).other (by simp) v4) ⟨_, _, _, _, _, hS.2.1.set5 v0 v1 v2 v3 v4⟩
  (gb_set_new (gb_set_new (gb_set_new (gb_set_new (gb_set_new hS.2.2.1 (by simp) _) (by simp) _) (by simp) _) (by simp) _) (by simp) _)
set_option maxRecDepth 100000 in
set_option maxHeartbeats 1600000 in
theorem join_any (h0 l0 h1 l1 h2 l2 h3 l3 h4 l4 : Int) (w : World)
  (a0 : 0 ≤ h0) (a1 : 0 ≤ h1) (a2 : 0 ≤ h2) (a3 : 0 ≤ h3) (a4 : 0 ≤ h4) (b0 : 0 ≤ l0) (b1 : 0 ≤ l1) (b2 : 0 ≤ l2) (b3 : 0 ≤ l3) (b4 : 0 ≤ l4)
  (c0 : h0 < 18446744073709551616) (c1 : h1 < 18446744073709551616) (c2 : h2 < 18446744073709551616) (c3 : h3 < 18446744073709551616) (c4 : h4 < 18446744073709551616)
  (d0 : l0 < 18446744073709551616) (d1 : l1 < 18446744073709551616) (d2 : l2 < 18446744073709551616) (d3 : l3 < 18446744073709551616) (d4 : l4 < 18446744073709551616) :
  Calls Tryz.prog 61 #[.agg #[.int .u64 h0, .int .u64 l0, .int .u64 h1, .int .u64 l1, .int .u64 h2, .int .u64 l2, .int .u64 h3, .int .u64 l3, .int .u64 h4, .int .u64 l4]] w fun e w' =>
   e = .returned (Fe.joinF (h0 * 18446744073709551616 + l0) (h1 * 18446744073709551616 + l1) (h2 * 18446744073709551616 + l2) (h3 * 18446744073709551616 + l3) (h4 * 18446744073709551616 + l4)).v ∧ w.grownBy w' none := by
 go_enter Tryz.func61, Tryz.ntmps61
 go_wp2
 have hS0 : JoinS h0 l0 h1 l1 h2 l2 h3 l3 h4 l4 w ((w.alloc (.cells #[.int .u64 h0, .int .u64 l0, .int .u64 h1, .int .u64 l1, .int .u64 h2, .int .u64 l2, .int .u64 h3, .int .u64 l3, .int .u64 h4, .int .u64 l4] 111)).alloc (.cells #[.int .u64 0, .int .u64 0, .int .u64 0, .int .u64 0, .int .u64 0] 34)).drew :=
  joinS_mk ((Blk.new w _ _).alloc _).drew ⟨_, _, _, _, _, (Blk.newAt (w.alloc _) [.int .u64 0, .int .u64 0, .int .u64 0, .int .u64 0, .int .u64 0] _ (by simp)).drew⟩ (gb_drew (gb_alloc (gb_alloc (gb_refl _ _) _) _))
 revert hS0
 generalize (w.alloc (.cells #[.int .u64 h0, .int .u64 l0, .int .u64 h1, .int .u64 l1, .int .u64 h2, .int .u64 l2, .int .u64 h3, .int .u64 l3, .int .u64 h4, .int .u64 l4] 111)).alloc (.cells #[.int .u64 0, .int .u64 0, .int .u64 0, .int .u64 0, .int .u64 0] 34) = W0
 intro hS0
 go_region_held3 (fun w' => Blk w' w.heap.size 111 [.int .u64 h0, .int .u64 l0, .int .u64 h1, .int .u64 l1, .int .u64 h2, .int .u64 l2, .int .u64 h3, .int .u64 l3, .int .u64 h4, .int .u64 l4] ∧ Room5 w' (w.heap.size + 1) 34 ∧ w.grownBy w' none ∧ w'.cell? ⟨w.heap.size, 0, none⟩ = some (.int .u64 h0) ∧ w'.cell? ⟨w.heap.size, 1, none⟩ = some (.int .u64 l0) ∧ w'.cell? ⟨w.heap.size, 2, none⟩ = some (.int .u64 h1) ∧ w'.cell? ⟨w.heap.size, 3, none⟩ = some (.int .u64 l1) ∧ w'.cell? ⟨w.heap.size, 4, none⟩ = some (.int .u64 h2) ∧ w'.cell? ⟨w.heap.size, 5, none⟩ = some (.int .u64 l2) ∧ w'.cell? ⟨w.heap.size, 6, none⟩ = some (.int .u64 h3) ∧ w'.cell? ⟨w.heap.size, 7, none⟩ = some (.int .u64 l3) ∧ w'.cell? ⟨w.heap.size, 8, none⟩ = some (.int .u64 h4) ∧ w'.cell? ⟨w.heap.size, 9, none⟩ = some (.int .u64 l4))
  (first | (with_reducible exact hS0) | (with_reducible exact joinS_keep (by assumption) (by assumption)) | (with_reducible exact joinS_set (by assumption) _ _ _ _ _))
  (first | (go_simp; go_at_call 89; refine (limb_gb _ _ _ ?_ ?_).mono ?_; assumption; assumption; rintro e w1 ⟨rfl, hg1⟩) | (go_simp; go_at_call 90; refine (rest_gb _ _ _ ?_ ?_ ?_ ?_).mono ?_; assumption; assumption; assumption; assumption; rintro e w1 ⟨rfl, hg1⟩) | (go_simp; go_at_call 88; refine (carry_w _ _ _ _ _ _).mono ?_; rintro e w1 ⟨r, hr, rfl, hg1⟩; obtain ⟨u0, u1, u2, u3, u4, hR⟩ : Room5 w1 (w.heap.size + 1) 34 := Room5.grown (And.left (And.right (by assumption : JoinS h0 l0 h1 l1 h2 l2 h3 l3 h4 l4 w _))) hg1 (by simp); have z0 := hR.cell (i := 0) rfl; have z1 := hR.cell (i := 1) rfl; have z2 := hR.cell (i := 2) rfl; have z3 := hR.cell (i := 3) rfl; have z4 := hR.cell (i := 4) rfl; have y0 := hR.free 0; have y1 := hR.free 1; have y2 := hR.free 2; have y3 := hR.free 3; have y4 := hR.free 4))
 go_wp2
 refine bodyPost_ret (v := .agg #[.int .u64 r.x0, .int .u64 r.x1, .int .u64 r.x2, .int .u64 r.x3, .int .u64 r.x4]) ?_ rfl ⟨?_, ?_⟩
 ·simp [results, Tryz.results61, go_sem, z0, z1, z2, z3, z4]
 ·unfold Fe.joinF
  have e := hr.out
  rw [wrapw] at e
  rw [← e]; rfl
 ·with_reducible exact (show JoinS h0 l0 h1 l1 h2 l2 h3 l3 h4 l4 w _ from (by assumption)).2.2.1
end
section
open Go.RowKit
def mulG (A B R : Nat) (x0 x1 x2 x3 x4 y0 y1 y2 y3 y4 z0 z1 z2 z3 S0 S1 S2 S3 S4 : Int) (r : Fe) : List (Value → World → Prop) := [
 fun _ _ => True,
 fun _ _ => True,
 fun _ _ => True,
 fun _ _ => True,
 fun _ _ => True,
 fun _ _ => True,
 fun _ _ => True,
 fun _ _ => True,
 fun _ _ => True,
 fun _ _ => True,
 fun _ _ => True,
 fun _ _ => True,
 fun _ _ => True,
 fun _ _ => True,
 fun _ _ => True,
 fun _ _ => True,
 fun _ _ => True,
 fun _ _ => True,
 fun _ _ => True,
 fun _ _ => True,
 fun _ _ => True,
 fun v _ => v = .pointer (some ⟨A, 0, none⟩),
 fun v _ => v = .int .u64 x0,
 fun v _ => v = .pointer (some ⟨B, 0, none⟩),
 fun v _ => v = .int .u64 y0,
 fun v _ => v = .agg #[.int .u64 x0, .int .u64 y0],
 fun v _ => v = .pointer (some ⟨A, 1, none⟩),
 fun v _ => v = .int .u64 x1,
 fun v _ => v = .int .u64 z3,
 fun v _ => v = .agg #[.int .u64 x1, .int .u64 z3],
 fun v _ => v = .pointer (some ⟨A, 2, none⟩),
 fun v _ => v = .int .u64 x2,
 fun v _ => v = .int .u64 z2,
 fun v _ => v = .agg #[.int .u64 x2, .int .u64 z2],
 fun v _ => v = .pointer (some ⟨A, 3, none⟩),
 fun v _ => v = .int .u64 x3,
 fun v _ => v = .int .u64 z1,
 fun v _ => v = .agg #[.int .u64 x3, .int .u64 z1],
 fun v _ => v = .pointer (some ⟨A, 4, none⟩),
 fun v _ => v = .int .u64 x4,
 fun v _ => v = .int .u64 z0,
 fun v _ => v = .agg #[.int .u64 x4, .int .u64 z0],
 fun v w => ∃ PB, PB ≠ R ∧ v = .slice (some ⟨PB, 0, none⟩) 5 5 ∧ Blk w PB 110 (flat [(x0, y0), (x1, z3), (x2, z2), (x3, z1), (x4, z0)]),
 fun v _ => v = .agg #[.int .u64 (S0 / 18446744073709551616), .int .u64 (S0 % 18446744073709551616)],
 fun v _ => v = .pointer (some ⟨A, 0, none⟩),
 fun v _ => v = .int .u64 x0,
 fun v _ => v = .pointer (some ⟨B, 1, none⟩),
 fun v _ => v = .int .u64 y1,
 fun v _ => v = .agg #[.int .u64 x0, .int .u64 y1],
 fun v _ => v = .pointer (some ⟨A, 1, none⟩),
 fun v _ => v = .int .u64 x1,
 fun v _ => v = .pointer (some ⟨B, 0, none⟩),
 fun v _ => v = .int .u64 y0,
 fun v _ => v = .agg #[.int .u64 x1, .int .u64 y0],
 fun v _ => v = .pointer (some ⟨A, 2, none⟩),
 fun v _ => v = .int .u64 x2,
 fun v _ => v = .int .u64 z3,
 fun v _ => v = .agg #[.int .u64 x2, .int .u64 z3],
 fun v _ => v = .pointer (some ⟨A, 3, none⟩),
 fun v _ => v = .int .u64 x3,
 fun v _ => v = .int .u64 z2,
 fun v _ => v = .agg #[.int .u64 x3, .int .u64 z2],
 fun v _ => v = .pointer (some ⟨A, 4, none⟩),
 fun v _ => v = .int .u64 x4,
 fun v _ => v = .int .u64 z1,
 fun v _ => v = .agg #[.int .u64 x4, .int .u64 z1],
 fun v w => ∃ PB, PB ≠ R ∧ v = .slice (some ⟨PB, 0, none⟩) 5 5 ∧ Blk w PB 110 (flat [(x0, y1), (x1, y0), (x2, z3), (x3, z2), (x4, z1)]),
 fun v _ => v = .agg #[.int .u64 (S1 / 18446744073709551616), .int .u64 (S1 % 18446744073709551616)],
 fun v _ => v = .pointer (some ⟨A, 0, none⟩),
 fun v _ => v = .int .u64 x0,
 fun v _ => v = .pointer (some ⟨B, 2, none⟩),
 fun v _ => v = .int .u64 y2,
 fun v _ => v = .agg #[.int .u64 x0, .int .u64 y2],
 fun v _ => v = .pointer (some ⟨A, 1, none⟩),
 fun v _ => v = .int .u64 x1,
 fun v _ => v = .pointer (some ⟨B, 1, none⟩),
 fun v _ => v = .int .u64 y1,
 fun v _ => v = .agg #[.int .u64 x1, .int .u64 y1],
 fun v _ => v = .pointer (some ⟨A, 2, none⟩),
 fun v _ => v = .int .u64 x2,
 fun v _ => v = .pointer (some ⟨B, 0, none⟩),
 fun v _ => v = .int .u64 y0,
 fun v _ => v = .agg #[.int .u64 x2, .int .u64 y0],
 fun v _ => v = .pointer (some ⟨A, 3, none⟩),
 fun v _ => v = .int .u64 x3,
 fun v _ => v = .int .u64 z3,
 fun v _ => v = .agg #[.int .u64 x3, .int .u64 z3],
 fun v _ => v = .pointer (some ⟨A, 4, none⟩),
 fun v _ => v = .int .u64 x4,
 fun v _ => v = .int .u64 z2,
 fun v _ => v = .agg #[.int .u64 x4, .int .u64 z2],
 fun v w => ∃ PB, PB ≠ R ∧ v = .slice (some ⟨PB, 0, none⟩) 5 5 ∧ Blk w PB 110 (flat [(x0, y2), (x1, y1), (x2, y0), (x3, z3), (x4, z2)]),
 fun v _ => v = .agg #[.int .u64 (S2 / 18446744073709551616), .int .u64 (S2 % 18446744073709551616)],
 fun v _ => v = .pointer (some ⟨A, 0, none⟩),
 fun v _ => v = .int .u64 x0,
 fun v _ => v = .pointer (some ⟨B, 3, none⟩),
 fun v _ => v = .int .u64 y3,
 fun v _ => v = .agg #[.int .u64 x0, .int .u64 y3],
 fun v _ => v = .pointer (some ⟨A, 1, none⟩),
 fun v _ => v = .int .u64 x1,
 fun v _ => v = .pointer (some ⟨B, 2, none⟩),
 fun v _ => v = .int .u64 y2,
 fun v _ => v = .agg #[.int .u64 x1, .int .u64 y2],
 fun v _ => v = .pointer (some ⟨A, 2, none⟩),
 fun v _ => v = .int .u64 x2,
 fun v _ => v = .pointer (some ⟨B, 1, none⟩),
 fun v _ => v = .int .u64 y1,
 fun v _ => v = .agg #[.int .u64 x2, .int .u64 y1],
 fun v _ => v = .pointer (some ⟨A, 3, none⟩),
 fun v _ => v = .int .u64 x3,
 fun v _ => v = .pointer (some ⟨B, 0, none⟩),
 fun v _ => v = .int .u64 y0,
 fun v _ => v = .agg #[.int .u64 x3, .int .u64 y0],
 fun v _ => v = .pointer (some ⟨A, 4, none⟩),
 fun v _ => v = .int .u64 x4,
 fun v _ => v = .int .u64 z3,
 fun v _ => v = .agg #[.int .u64 x4, .int .u64 z3],
 fun v w => ∃ PB, PB ≠ R ∧ v = .slice (some ⟨PB, 0, none⟩) 5 5 ∧ Blk w PB 110 (flat [(x0, y3), (x1, y2), (x2, y1), (x3, y0), (x4, z3)]),
 fun v _ => v = .agg #[.int .u64 (S3 / 18446744073709551616), .int .u64 (S3 % 18446744073709551616)],
 fun v _ => v = .pointer (some ⟨A, 0, none⟩),
 fun v _ => v = .int .u64 x0,
 fun v _ => v = .pointer (some ⟨B, 4, none⟩),
 fun v _ => v = .int .u64 y4,
 fun v _ => v = .agg #[.int .u64 x0, .int .u64 y4],
 fun v _ => v = .pointer (some ⟨A, 1, none⟩),
 fun v _ => v = .int .u64 x1,
 fun v _ => v = .pointer (some ⟨B, 3, none⟩),
 fun v _ => v = .int .u64 y3,
 fun v _ => v = .agg #[.int .u64 x1, .int .u64 y3],
 fun v _ => v = .pointer (some ⟨A, 2, none⟩),
 fun v _ => v = .int .u64 x2,
 fun v _ => v = .pointer (some ⟨B, 2, none⟩),
 fun v _ => v = .int .u64 y2,
 fun v _ => v = .agg #[.int .u64 x2, .int .u64 y2],
 fun v _ => v = .pointer (some ⟨A, 3, none⟩),
 fun v _ => v = .int .u64 x3,
 fun v _ => v = .pointer (some ⟨B, 1, none⟩),
 fun v _ => v = .int .u64 y1,
 fun v _ => v = .agg #[.int .u64 x3, .int .u64 y1],
 fun v _ => v = .pointer (some ⟨A, 4, none⟩),
 fun v _ => v = .int .u64 x4,
 fun v _ => v = .pointer (some ⟨B, 0, none⟩),
 fun v _ => v = .int .u64 y0,
 fun v _ => v = .agg #[.int .u64 x4, .int .u64 y0],
 fun v w => ∃ PB, PB ≠ R ∧ v = .slice (some ⟨PB, 0, none⟩) 5 5 ∧ Blk w PB 110 (flat [(x0, y4), (x1, y3), (x2, y2), (x3, y1), (x4, y0)]),
 fun v _ => v = .agg #[.int .u64 (S4 / 18446744073709551616), .int .u64 (S4 % 18446744073709551616)],
 fun v _ => v = .agg #[.int .u64 (S0 / 18446744073709551616), .int .u64 (S0 % 18446744073709551616), .int .u64 (S1 / 18446744073709551616), .int .u64 (S1 % 18446744073709551616), .int .u64 (S2 / 18446744073709551616), .int .u64 (S2 % 18446744073709551616), .int .u64 (S3 / 18446744073709551616), .int .u64 (S3 % 18446744073709551616), .int .u64 (S4 / 18446744073709551616), .int .u64 (S4 % 18446744073709551616)],
 fun v _ => v = r.v]
def mulAt (A B R : Nat) (x0 x1 x2 x3 x4 y0 y1 y2 y3 y4 z0 z1 z2 z3 S0 S1 S2 S3 S4 : Int) (r : Fe) (d : Nat) (v : Value) (w : World) : Prop := ((mulG A B R x0 x1 x2 x3 x4 y0 y1 y2 y3 y4 z0 z1 z2 z3 S0 S1 S2 S3 S4 r).getD d (fun _ _ => True)) v w
structure mulB (w0 : World) (A B R : Nat) (x0 x1 x2 x3 x4 y0 y1 y2 y3 y4 : Int) (w : World) : Prop where
 a : Blk w A 34 [.int .u64 x0, .int .u64 x1, .int .u64 x2, .int .u64 x3, .int .u64 x4]
 b : Blk w B 34 [.int .u64 y0, .int .u64 y1, .int .u64 y2, .int .u64 y3, .int .u64 y4]
 r : Room5 w R 34
 g : w0.grownBy w none
 ra : A ≠ R
 rb : B ≠ R
 rn : w0.heap.size ≤ R
theorem mulB.grown {w0 : World} {A B R : Nat} {x0 x1 x2 x3 x4 y0 y1 y2 y3 y4 : Int} {w w' : World} (h : mulB w0 A B R x0 x1 x2 x3 x4 y0 y1 y2 y3 y4 w) (hg : w.grownBy w' none) : mulB w0 A B R x0 x1 x2 x3 x4 y0 y1 y2 y3 y4 w' :=
 ⟨h.a.grown hg (by simp), h.b.grown hg (by simp), h.r.grown hg (by simp), gb_trans h.g hg, h.ra, h.rb, h.rn⟩
theorem mulB.alloc {w0 : World} {A B R : Nat} {x0 x1 x2 x3 x4 y0 y1 y2 y3 y4 : Int} {w : World} (h : mulB w0 A B R x0 x1 x2 x3 x4 y0 y1 y2 y3 y4 w) (o : Obj) : mulB w0 A B R x0 x1 x2 x3 x4 y0 y1 y2 y3 y4 (w.alloc o) := h.grown (World.grownBy_alloc _ _ _)
theorem mulB.set5 {w0 : World} {A B R : Nat} {x0 x1 x2 x3 x4 y0 y1 y2 y3 y4 : Int} {w : World} (h : mulB w0 A B R x0 x1 x2 x3 x4 y0 y1 y2 y3 y4 w) (v0 v1 v2 v3 v4 : Value) :
  mulB w0 A B R x0 x1 x2 x3 x4 y0 y1 y2 y3 y4 (((((w.setCell ⟨R, 0, none⟩ v0).setCell ⟨R, 1, none⟩ v1).setCell ⟨R, 2, none⟩ v2).setCell ⟨R, 3, none⟩ v3).setCell ⟨R, 4, none⟩ v4) :=
 ⟨((((h.a.other (Ne.symm h.ra) _).other (Ne.symm h.ra) _).other (Ne.symm h.ra) _).other (Ne.symm h.ra) _).other (Ne.symm h.ra) _,
  ((((h.b.other (Ne.symm h.rb) _).other (Ne.symm h.rb) _).other (Ne.symm h.rb) _).other (Ne.symm h.rb) _).other (Ne.symm h.rb) _,
  ⟨_, _, _, _, _, h.r.set5 v0 v1 v2 v3 v4⟩, gb_set_new (gb_set_new (gb_set_new (gb_set_new (gb_set_new h.g h.rn _) h.rn _) h.rn _) h.rn _) h.rn _, h.ra, h.rb, h.rn⟩
def Stable (R : Nat) : List (Value → World → Prop) → Prop
 | [] => True
 | p :: r => (∀ v w w', World.grownBy w w' (some R) → p v w → p v w') ∧ Stable R r
theorem stable_get {R : Nat} (L : List (Value → World → Prop)) (h : Stable R L) (d : Nat) (u : Value) (w w' : World) (hR : w.grownBy w' (some R)) (hu : (L.getD d (fun _ _ => True)) u w) : (L.getD d (fun _ _ => True)) u w' := by
 induction L generalizing d with
 | nil => simp at hu ⊢
 | cons p r ih =>
  cases d with
  | zero => exact h.1 u w w' hR hu
  | succ d => exact ih h.2 d hu
theorem mul_stable (A B R : Nat) (x0 x1 x2 x3 x4 y0 y1 y2 y3 y4 z0 z1 z2 z3 S0 S1 S2 S3 S4 : Int) (r : Fe) (d : Nat) (u : Value) (w w' : World) (hR : w.grownBy w' (some R)) (h : mulAt A B R x0 x1 x2 x3 x4 y0 y1 y2 y3 y4 z0 z1 z2 z3 S0 S1 S2 S3 S4 r d u w) : mulAt A B R x0 x1 x2 x3 x4 y0 y1 y2 y3 y4 z0 z1 z2 z3 S0 S1 S2 S3 S4 r d u w' :=
 stable_get (R := R) _ (show Stable R (mulG A B R x0 x1 x2 x3 x4 y0 y1 y2 y3 y4 z0 z1 z2 z3 S0 S1 S2 S3 S4 r) from ⟨fun _ _ _ _ h => h, fun _ _ _ _ h => h, fun _ _ _ _ h => h, fun _ _ _ _ h => h, fun _ _ _ _ h => h, fun _ _ _ _ h => h, fun _ _ _ _ h => h, fun _ _ _ _ h => h, fun _ _ _ _ h => h, fun _ _ _ _ h => h, fun _ _ _ _ h => h, fun _ _ _ _ h => h, fun _ _ _ _ h => h, fun _ _ _ _ h => h, fun _ _ _ _ h => h, fun _ _ _ _ h => h, fun _ _ _ _ h => h, fun _ _ _ _ h => h, fun _ _ _ _ h => h, fun _ _ _ _ h => h, fun _ _ _ _ h => h, fun _ _ _ _ h => h, fun _ _ _ _ h => h, fun _ _ _ _ h => h, fun _ _ _ _ h => h, fun _ _ _ _ h => h, fun _ _ _ _ h => h, fun _ _ _ _ h => h, fun _ _ _ _ h => h, fun _ _ _ _ h => h, fun _ _ _ _ h => h, fun _ _ _ _ h => h, fun _ _ _ _ h => h, fun _ _ _ _ h => h, fun _ _ _ _ h => h, fun _ _ _ _ h => h, fun _ _ _ _ h => h, fun _ _ _ _ h => h, fun _ _ _ _ h => h, fun _ _ _ _ h => h, fun _ _ _ _ h => h, fun _ _ _ _ h => h, fun _ _ _ hR ⟨PB, hne, hv, hb⟩ => ⟨PB, hne, hv, hb.grown hR (some_ne hne)⟩, fun _ _ _ _ h => h, fun _ _ _ _ h => h, fun _ _ _ _ h => h, fun _ _ _ _ h => h, fun _ _ _ _ h => h, fun _ _ _ _ h => h, fun _ _ _ _ h => h, fun _ _ _ _ h => h, fun _ _ _ _ h => h, fun _ _ _ _ h => h, fun _ _ _ _ h => h, fun _ _ _ _ h => h, fun _ _ _ _ h => h, fun _ _ _ _ h => h, fun _ _ _ _ h => h, fun _ _ _ _ h => h, fun _ _ _ _ h => h, fun _ _ _ _ h => h, fun _ _ _ _ h => h, fun _ _ _ _ h => h, fun _ _ _ _ h => h, fun _ _ _ _ h => h, fun _ _ _ _ h => h, fun _ _ _ hR ⟨PB, hne, hv, hb⟩ => ⟨PB, hne, hv, hb.grown hR (some_ne hne)⟩, fun _ _ _ _ h => h, fun _ _ _ _ h => h, fun _ _ _ _ h => h, fun _ _ _ _ h => h, fun _ _ _ _ h => h, fun _ _ _ _ h => h, fun _ _ _ _ h => h, fun _ _ _ _ h => h, fun _ _ _ _ h => h, fun _ _ _ _ h => h, fun _ _ _ _ h => h, fun _ _ _ _ h => h, fun _ _ _ _ h => h, fun _ _ _ _ h => h, fun _ _ _ _ h => h, fun _ _ _ _ h => h, fun _ _ _ _ h => h, fun _ _ _ _ h => h, fun _ _ _ _ h => h, fun _ _ _ _ h => h, fun _ _ _ _ h => h, fun _ _ _ _ h => h, fun _ _ _ _ h => h, fun _ _ _ _ h => h, fun _ _ _ hR ⟨PB, hne, hv, hb⟩ => ⟨PB, hne, hv, hb.grown hR (some_ne hne)⟩, fun _ _ _ _ h => h, fun _ _ _ _ h => h, fun _ _ _ _ h => h, fun _ _ _ _ h => h, fun _ _ _ _ h => h, fun _ _ _ _ h => h, fun _ _ _ _ h => h, fun _ _ _ _ h => h, fun _ _ _ _ h => h, fun _ _ _ _ h => h, fun _ _ _ _ h => h, fun _ _ _ _ h => h, fun _ _ _ _ h => h, fun _ _ _ _ h => h, fun _ _ _ _ h => h, fun _ _ _ _ h => h, fun _ _ _ _ h => h, fun _ _ _ _ h => h, fun _ _ _ _ h => h, fun _ _ _ _ h => h, fun _ _ _ _ h => h, fun _ _ _ _ h => h, fun _ _ _ _ h => h, fun _ _ _ _ h => h, fun _ _ _ _ h => h, fun _ _ _ hR ⟨PB, hne, hv, hb⟩ => ⟨PB, hne, hv, hb.grown hR (some_ne hne)⟩, fun _ _ _ _ h => h, fun _ _ _ _ h => h, fun _ _ _ _ h => h, fun _ _ _ _ h => h, fun _ _ _ _ h => h, fun _ _ _ _ h => h, fun _ _ _ _ h => h, fun _ _ _ _ h => h, fun _ _ _ _ h => h, fun _ _ _ _ h => h, fun _ _ _ _ h => h, fun _ _ _ _ h => h, fun _ _ _ _ h => h, fun _ _ _ _ h => h, fun _ _ _ _ h => h, fun _ _ _ _ h => h, fun _ _ _ _ h => h, fun _ _ _ _ h => h, fun _ _ _ _ h => h, fun _ _ _ _ h => h, fun _ _ _ _ h => h, fun _ _ _ _ h => h, fun _ _ _ _ h => h, fun _ _ _ _ h => h, fun _ _ _ _ h => h, fun _ _ _ _ h => h, fun _ _ _ hR ⟨PB, hne, hv, hb⟩ => ⟨PB, hne, hv, hb.grown hR (some_ne hne)⟩, fun _ _ _ _ h => h, fun _ _ _ _ h => h, fun _ _ _ _ h => h, trivial⟩) d u w w' hR h
theorem join_sums (S0 S1 S2 S3 S4 : Int) (w : World) (h0 : Is128 S0) (h1 : Is128 S1) (h2 : Is128 S2) (h3 : Is128 S3) (h4 : Is128 S4) :
  Calls Tryz.prog 61 #[.agg #[.int .u64 (S0 / 18446744073709551616), .int .u64 (S0 % 18446744073709551616), .int .u64 (S1 / 18446744073709551616), .int .u64 (S1 % 18446744073709551616), .int .u64 (S2 / 18446744073709551616), .int .u64 (S2 % 18446744073709551616), .int .u64 (S3 / 18446744073709551616), .int .u64 (S3 % 18446744073709551616), .int .u64 (S4 / 18446744073709551616), .int .u64 (S4 % 18446744073709551616)]] w fun e w' => e = .returned (Fe.joinF S0 S1 S2 S3 S4).v ∧ w.grownBy w' none := by
 obtain ⟨n0, l0⟩ := h0
 obtain ⟨n1, l1⟩ := h1
 obtain ⟨n2, l2⟩ := h2
 obtain ⟨n3, l3⟩ := h3
 obtain ⟨n4, l4⟩ := h4
 have := join_any (S0 / 18446744073709551616) (S0 % 18446744073709551616) (S1 / 18446744073709551616) (S1 % 18446744073709551616) (S2 / 18446744073709551616) (S2 % 18446744073709551616) (S3 / 18446744073709551616) (S3 % 18446744073709551616) (S4 / 18446744073709551616) (S4 % 18446744073709551616) w
  (by omega) (by omega) (by omega) (by omega) (by omega) (by omega) (by omega) (by omega) (by omega) (by omega) (by omega) (by omega) (by omega) (by omega) (by omega) (by omega) (by omega) (by omega) (by omega) (by omega)
 simpa only [halves] using this
set_option maxRecDepth 100000 in
set_option maxHeartbeats 4000000 in
theorem mul_any (x0 x1 x2 x3 x4 y0 y1 y2 y3 y4 : Int) (w : World) (a0 : 0 ≤ x0) (c0 : x0 < 18446744073709551616) (a1 : 0 ≤ x1) (c1 : x1 < 18446744073709551616) (a2 : 0 ≤ x2) (c2 : x2 < 18446744073709551616) (a3 : 0 ≤ x3) (c3 : x3 < 18446744073709551616) (a4 : 0 ≤ x4) (c4 : x4 < 18446744073709551616) (b0 : 0 ≤ y0) (d0 : y0 < 18446744073709551616) (b1 : 0 ≤ y1) (d1 : y1 < 18446744073709551616) (b2 : 0 ≤ y2) (d2 : y2 < 18446744073709551616) (b3 : 0 ≤ y3) (d3 : y3 < 18446744073709551616) (b4 : 0 ≤ y4) (d4 : y4 < 18446744073709551616) :
  Calls Tryz.prog 38 #[.agg #[.int .u64 x0, .int .u64 x1, .int .u64 x2, .int .u64 x3, .int .u64 x4], .agg #[.int .u64 y0, .int .u64 y1, .int .u64 y2, .int .u64 y3, .int .u64 y4]] w (FeOut (Fe.mulF ⟨x0, x1, x2, x3, x4⟩ ⟨y0, y1, y2, y3, y4⟩) w) := by
 obtain ⟨z0, hz0⟩ : ∃ z, IntKind.u64.wrap (19 * y1) = z := ⟨_, rfl⟩
 have pz0 : 0 ≤ z0 := by rw [← hz0, wrapw]; unfold Fe.w64; omega
 have qz0 : z0 < 18446744073709551616 := by rw [← hz0, wrapw]; unfold Fe.w64; omega
 obtain ⟨z1, hz1⟩ : ∃ z, IntKind.u64.wrap (19 * y2) = z := ⟨_, rfl⟩
 have pz1 : 0 ≤ z1 := by rw [← hz1, wrapw]; unfold Fe.w64; omega
 have qz1 : z1 < 18446744073709551616 := by rw [← hz1, wrapw]; unfold Fe.w64; omega
 obtain ⟨z2, hz2⟩ : ∃ z, IntKind.u64.wrap (19 * y3) = z := ⟨_, rfl⟩
 have pz2 : 0 ≤ z2 := by rw [← hz2, wrapw]; unfold Fe.w64; omega
 have qz2 : z2 < 18446744073709551616 := by rw [← hz2, wrapw]; unfold Fe.w64; omega
 obtain ⟨z3, hz3⟩ : ∃ z, IntKind.u64.wrap (19 * y4) = z := ⟨_, rfl⟩
 have pz3 : 0 ≤ z3 := by rw [← hz3, wrapw]; unfold Fe.w64; omega
 have qz3 : z3 < 18446744073709551616 := by rw [← hz3, wrapw]; unfold Fe.w64; omega
 obtain ⟨S0, hS0⟩ : ∃ S, sumL [(x0, y0), (x1, z3), (x2, z2), (x3, z1), (x4, z0)] = S := ⟨_, rfl⟩
 obtain ⟨S1, hS1⟩ : ∃ S, sumL [(x0, y1), (x1, y0), (x2, z3), (x3, z2), (x4, z1)] = S := ⟨_, rfl⟩
 obtain ⟨S2, hS2⟩ : ∃ S, sumL [(x0, y2), (x1, y1), (x2, y0), (x3, z3), (x4, z2)] = S := ⟨_, rfl⟩
 obtain ⟨S3, hS3⟩ : ∃ S, sumL [(x0, y3), (x1, y2), (x2, y1), (x3, y0), (x4, z3)] = S := ⟨_, rfl⟩
 obtain ⟨S4, hS4⟩ : ∃ S, sumL [(x0, y4), (x1, y3), (x2, y2), (x3, y1), (x4, y0)] = S := ⟨_, rfl⟩
 obtain ⟨r, hr⟩ : ∃ r, r = Fe.joinF S0 S1 S2 S3 S4 := ⟨_, rfl⟩
 have HS0 := Lib.hid hS0; clear hS0
 have HS1 := Lib.hid hS1; clear hS1
 have HS2 := Lib.hid hS2; clear hS2
 have HS3 := Lib.hid hS3; clear hS3
 have HS4 := Lib.hid hS4; clear hS4
 have Hr := Lib.hid hr; clear hr
 have iS0 : Is128 S0 := by rw [← HS0.out]; exact ⟨(sumL_bd _).1, (sumL_bd _).2⟩
 have iS1 : Is128 S1 := by rw [← HS1.out]; exact ⟨(sumL_bd _).1, (sumL_bd _).2⟩
 have iS2 : Is128 S2 := by rw [← HS2.out]; exact ⟨(sumL_bd _).1, (sumL_bd _).2⟩
 have iS3 : Is128 S3 := by rw [← HS3.out]; exact ⟨(sumL_bd _).1, (sumL_bd _).2⟩
 have iS4 : Is128 S4 := by rw [← HS4.out]; exact ⟨(sumL_bd _).1, (sumL_bd _).2⟩
 have Hz0 := Lib.hid hz0; clear hz0
 have Hz1 := Lib.hid hz1; clear hz1
 have Hz2 := Lib.hid hz2; clear hz2
 have Hz3 := Lib.hid hz3; clear hz3
 go_enter Tryz.func38, Tryz.ntmps38
 have hB0 : mulB w w.heap.size (w.heap.size + 1) (w.heap.size + 1 + 1) x0 x1 x2 x3 x4 y0 y1 y2 y3 y4 (((w.alloc (.cells #[.int .u64 x0, .int .u64 x1, .int .u64 x2, .int .u64 x3, .int .u64 x4] 34)).alloc (.cells #[.int .u64 y0, .int .u64 y1, .int .u64 y2, .int .u64 y3, .int .u64 y4] 34)).alloc (.cells #[.int .u64 0, .int .u64 0, .int .u64 0, .int .u64 0, .int .u64 0] 34)) :=
  ⟨((Blk.new w [.int .u64 x0, .int .u64 x1, .int .u64 x2, .int .u64 x3, .int .u64 x4] _).alloc _).alloc _, (Blk.newAt (w.alloc _) [.int .u64 y0, .int .u64 y1, .int .u64 y2, .int .u64 y3, .int .u64 y4] _ (by simp)).alloc _, ⟨_, _, _, _, _, Blk.newAt _ [.int .u64 0, .int .u64 0, .int .u64 0, .int .u64 0, .int .u64 0] _ (by simp)⟩, gb_alloc (gb_alloc (gb_alloc (gb_refl _ _) _) _) _, by omega, by omega, by omega⟩
 go_wp2
 go_quiet (fail)
 go_wp2
 have hB1 := (hB0.grown (gb_drewN (gb_refl _ none) nq)).grown (gb_drew (gb_refl _ none))
 clear hB0
 refine wp_region_flow (mulAt w.heap.size (w.heap.size + 1) (w.heap.size + 1 + 1) x0 x1 x2 x3 x4 y0 y1 y2 y3 y4 z0 z1 z2 z3 S0 S1 S2 S3 S4 r) (fun _ w' => Blk w' (w.heap.size + 1 + 1) 34 [.int .u64 r.x0, .int .u64 r.x1, .int .u64 r.x2, .int .u64 r.x3, .int .u64 r.x4])
  (mulB w w.heap.size (w.heap.size + 1) (w.heap.size + 1 + 1) x0 x1 x2 x3 x4 y0 y1 y2 y3 y4) (fun w' w'' => w'.grownBy w'' none ∨ (w'.grownBy w'' (some (w.heap.size + 1 + 1)) ∧ Blk w'' (w.heap.size + 1 + 1) 34 [.int .u64 r.x0, .int .u64 r.x1, .int .u64 r.x2, .int .u64 r.x3, .int .u64 r.x4])) (by kernel_rfl) (by kernel_rfl) (by kernel_rfl) hB1 ?_ ?_ ?_ ?_
 ·exact fun d u w1 w2 hR h => mul_stable _ _ _ _ _ _ _ _ _ _ _ _ _ _ _ _ _ _ _ _ _ _ r d u w1 w2 (hR.elim (fun h => gb_row h _) (fun h => h.1)) h
 ·exact fun j w1 w2 hR h => hR.elim (fun hg => h.grown hg (by simp)) (fun h => h.2)
 ·clear hB1
  generalize w.heap.size = A
  generalize eB : A + 1 = B
  generalize eR : B + 1 = R
  refine ⟨flow_value rfl rfl fun a w h => ?_, ?_⟩
  ·have e2 : _ = Value.pointer (some ⟨A, 0, none⟩) := h.r 2
   refine ⟨.pointer (some ⟨A, 0, none⟩), w, ?_, h.base, Or.inl (gb_refl _ _), rfl⟩
   clear h
   simp only [execOp, Act.eval, e2]
   go_simp
  refine ⟨flow_value rfl rfl fun a w h => ?_, ?_⟩
  ·have e21 : _ = Value.pointer (some ⟨A, 0, none⟩) := h.d 21
   have c := h.base.a.cell (i := 0) rfl
   refine ⟨.int .u64 x0, w, ?_, h.base, Or.inl (gb_refl _ _), rfl⟩
   clear h
   simp only [execOp, Act.eval, e21]
   go_simp
  refine ⟨flow_value rfl rfl fun a w h => ?_, ?_⟩
  ·have e3 : _ = Value.pointer (some ⟨B, 0, none⟩) := h.r 3
   refine ⟨.pointer (some ⟨B, 0, none⟩), w, ?_, h.base, Or.inl (gb_refl _ _), rfl⟩
   clear h
   simp only [execOp, Act.eval, e3]
   go_simp
  refine ⟨flow_value rfl rfl fun a w h => ?_, ?_⟩
  ·have e23 : _ = Value.pointer (some ⟨B, 0, none⟩) := h.d 23
   have c := h.base.b.cell (i := 0) rfl
   refine ⟨.int .u64 y0, w, ?_, h.base, Or.inl (gb_refl _ _), rfl⟩
   clear h
   simp only [execOp, Act.eval, e23]
   go_simp
  refine ⟨flow_value rfl rfl fun a w h => ?_, ?_⟩
  ·have e22 : _ = Value.int .u64 x0 := h.d 22
   have e24 : _ = Value.int .u64 y0 := h.d 24
   refine ⟨.agg #[.int .u64 x0, .int .u64 y0], w, ?_, h.base, Or.inl (gb_refl _ _), rfl⟩
   clear h
   simp only [execOp, List.map_toArray, List.map_cons, List.map_nil, Act.eval, e22, e24]
   go_simp
  refine ⟨flow_value rfl rfl fun a w h => ?_, ?_⟩
  ·have e2 : _ = Value.pointer (some ⟨A, 0, none⟩) := h.r 2
   refine ⟨.pointer (some ⟨A, 1, none⟩), w, ?_, h.base, Or.inl (gb_refl _ _), rfl⟩
   clear h
   simp only [execOp, Act.eval, e2]
   go_simp
  refine ⟨flow_value rfl rfl fun a w h => ?_, ?_⟩
  ·have e26 : _ = Value.pointer (some ⟨A, 1, none⟩) := h.d 26
   have c := h.base.a.cell (i := 1) rfl
   refine ⟨.int .u64 x1, w, ?_, h.base, Or.inl (gb_refl _ _), rfl⟩
   clear h
   simp only [execOp, Act.eval, e26]
   go_simp
  refine ⟨flow_value rfl rfl fun a w h => ?_, ?_⟩
  ·have e8 : a.tmps.getD 8 undef = .int .u64 z3 := (h.rest 8 (by kernel_rfl)).trans (congrArg (Value.int .u64) Hz3.out)
   refine ⟨.int .u64 z3, w, ?_, h.base, Or.inl (gb_refl _ _), rfl⟩
   clear h
   simp only [execOp, Act.eval, e8]
   go_simp
  refine ⟨flow_value rfl rfl fun a w h => ?_, ?_⟩
  ·have e27 : _ = Value.int .u64 x1 := h.d 27
   have e28 : _ = Value.int .u64 z3 := h.d 28
   refine ⟨.agg #[.int .u64 x1, .int .u64 z3], w, ?_, h.base, Or.inl (gb_refl _ _), rfl⟩
   clear h
   simp only [execOp, List.map_toArray, List.map_cons, List.map_nil, Act.eval, e27, e28]
   go_simp
  refine ⟨flow_value rfl rfl fun a w h => ?_, ?_⟩
  ·have e2 : _ = Value.pointer (some ⟨A, 0, none⟩) := h.r 2
   refine ⟨.pointer (some ⟨A, 2, none⟩), w, ?_, h.base, Or.inl (gb_refl _ _), rfl⟩
   clear h
   simp only [execOp, Act.eval, e2]
   go_simp
  refine ⟨flow_value rfl rfl fun a w h => ?_, ?_⟩
  ·have e30 : _ = Value.pointer (some ⟨A, 2, none⟩) := h.d 30
   have c := h.base.a.cell (i := 2) rfl
   refine ⟨.int .u64 x2, w, ?_, h.base, Or.inl (gb_refl _ _), rfl⟩
   clear h
   simp only [execOp, Act.eval, e30]
   go_simp
  refine ⟨flow_value rfl rfl fun a w h => ?_, ?_⟩
  ·have e7 : a.tmps.getD 7 undef = .int .u64 z2 := (h.rest 7 (by kernel_rfl)).trans (congrArg (Value.int .u64) Hz2.out)
   refine ⟨.int .u64 z2, w, ?_, h.base, Or.inl (gb_refl _ _), rfl⟩
   clear h
   simp only [execOp, Act.eval, e7]
   go_simp
  refine ⟨flow_value rfl rfl fun a w h => ?_, ?_⟩
  ·have e31 : _ = Value.int .u64 x2 := h.d 31
   have e32 : _ = Value.int .u64 z2 := h.d 32
   refine ⟨.agg #[.int .u64 x2, .int .u64 z2], w, ?_, h.base, Or.inl (gb_refl _ _), rfl⟩
   clear h
   simp only [execOp, List.map_toArray, List.map_cons, List.map_nil, Act.eval, e31, e32]
   go_simp
  refine ⟨flow_value rfl rfl fun a w h => ?_, ?_⟩
  ·have e2 : _ = Value.pointer (some ⟨A, 0, none⟩) := h.r 2
   refine ⟨.pointer (some ⟨A, 3, none⟩), w, ?_, h.base, Or.inl (gb_refl _ _), rfl⟩
   clear h
   simp only [execOp, Act.eval, e2]
   go_simp
  refine ⟨flow_value rfl rfl fun a w h => ?_, ?_⟩
  ·have e34 : _ = Value.pointer (some ⟨A, 3, none⟩) := h.d 34
   have c := h.base.a.cell (i := 3) rfl
   refine ⟨.int .u64 x3, w, ?_, h.base, Or.inl (gb_refl _ _), rfl⟩
   clear h
   simp only [execOp, Act.eval, e34]
   go_simp
  refine ⟨flow_value rfl rfl fun a w h => ?_, ?_⟩
  ·have e6 : a.tmps.getD 6 undef = .int .u64 z1 := (h.rest 6 (by kernel_rfl)).trans (congrArg (Value.int .u64) Hz1.out)
   refine ⟨.int .u64 z1, w, ?_, h.base, Or.inl (gb_refl _ _), rfl⟩
   clear h
   simp only [execOp, Act.eval, e6]
   go_simp
  refine ⟨flow_value rfl rfl fun a w h => ?_, ?_⟩
  ·have e35 : _ = Value.int .u64 x3 := h.d 35
   have e36 : _ = Value.int .u64 z1 := h.d 36
   refine ⟨.agg #[.int .u64 x3, .int .u64 z1], w, ?_, h.base, Or.inl (gb_refl _ _), rfl⟩
   clear h
   simp only [execOp, List.map_toArray, List.map_cons, List.map_nil, Act.eval, e35, e36]
   go_simp
  refine ⟨flow_value rfl rfl fun a w h => ?_, ?_⟩
  ·have e2 : _ = Value.pointer (some ⟨A, 0, none⟩) := h.r 2
   refine ⟨.pointer (some ⟨A, 4, none⟩), w, ?_, h.base, Or.inl (gb_refl _ _), rfl⟩
   clear h
   simp only [execOp, Act.eval, e2]
   go_simp
  refine ⟨flow_value rfl rfl fun a w h => ?_, ?_⟩
  ·have e38 : _ = Value.pointer (some ⟨A, 4, none⟩) := h.d 38
   have c := h.base.a.cell (i := 4) rfl
   refine ⟨.int .u64 x4, w, ?_, h.base, Or.inl (gb_refl _ _), rfl⟩
   clear h
   simp only [execOp, Act.eval, e38]
   go_simp
  refine ⟨flow_value rfl rfl fun a w h => ?_, ?_⟩
  ·have e5 : a.tmps.getD 5 undef = .int .u64 z0 := (h.rest 5 (by kernel_rfl)).trans (congrArg (Value.int .u64) Hz0.out)
   refine ⟨.int .u64 z0, w, ?_, h.base, Or.inl (gb_refl _ _), rfl⟩
   clear h
   simp only [execOp, Act.eval, e5]
   go_simp
  refine ⟨flow_value rfl rfl fun a w h => ?_, ?_⟩
  ·have e39 : _ = Value.int .u64 x4 := h.d 39
   have e40 : _ = Value.int .u64 z0 := h.d 40
   refine ⟨.agg #[.int .u64 x4, .int .u64 z0], w, ?_, h.base, Or.inl (gb_refl _ _), rfl⟩
   clear h
   simp only [execOp, List.map_toArray, List.map_cons, List.map_nil, Act.eval, e39, e40]
   go_simp
  refine ⟨flow_value rfl rfl fun a w h => ?_, ?_⟩
  ·have e25 : _ = Value.agg #[.int .u64 x0, .int .u64 y0] := h.d 25
   have e29 : _ = Value.agg #[.int .u64 x1, .int .u64 z3] := h.d 29
   have e33 : _ = Value.agg #[.int .u64 x2, .int .u64 z2] := h.d 33
   have e37 : _ = Value.agg #[.int .u64 x3, .int .u64 z1] := h.d 37
   have e41 : _ = Value.agg #[.int .u64 x4, .int .u64 z0] := h.d 41
   obtain ⟨_, _, _, _, _, hr5⟩ := h.base.r
   have hs := hr5.lt
   refine ⟨.slice (some ⟨w.heap.size, 0, none⟩) 5 5, w.alloc (.cells #[.int .u64 x0, .int .u64 y0, .int .u64 x1, .int .u64 z3, .int .u64 x2, .int .u64 z2, .int .u64 x3, .int .u64 z1, .int .u64 x4, .int .u64 z0] 110), ?_, h.base.alloc _, Or.inl (World.grownBy_alloc _ _ _), ⟨w.heap.size, by omega, rfl, Blk.new w _ _⟩⟩
   clear h
   simp only [execOp, List.map_toArray, List.map_cons, List.map_nil, Act.eval, e25, e29, e33, e37, e41]
   go_simp
  refine ⟨flow_call rfl rfl fun a w h => ?_, ?_⟩
  ·obtain ⟨PB, hne, e42, hP⟩ : ∃ PB, PB ≠ R ∧ a.tmps.getD 42 undef = .slice (some ⟨PB, 0, none⟩) 5 5 ∧ Blk w PB 110 (flat [(x0, y0), (x1, z3), (x2, z2), (x3, z1), (x4, z0)]) := h.dep 42 (by kernel_rfl)
   have hb := h.base
   refine ⟨62, #[.slice (some ⟨PB, 0, none⟩) 5 5], ?_, ?_⟩
   ·clear h hb hP
    have e42x : a.tmps[42]?.getD undef = .slice (some ⟨PB, 0, none⟩) 5 5 := by simpa using e42
    clear e42
    go_simp
   ·refine (sumUp_any PB 5 _ w _ rfl (by decide) hP ?_).mono ?_
    ·intro p hp; simp only [List.mem_cons, List.not_mem_nil, or_false] at hp; rcases hp with rfl | rfl | rfl | rfl | rfl <;> exact ⟨by assumption, by assumption, by assumption, by assumption⟩
    ·rintro e w1 ⟨rfl, hg⟩; exact ⟨_, rfl, hb.grown hg, Or.inl hg, by show sumV _ = _; rw [HS0.out]; rfl⟩
  refine ⟨flow_value rfl rfl fun a w h => ?_, ?_⟩
  ·have e2 : _ = Value.pointer (some ⟨A, 0, none⟩) := h.r 2
   refine ⟨.pointer (some ⟨A, 0, none⟩), w, ?_, h.base, Or.inl (gb_refl _ _), rfl⟩
   clear h
   simp only [execOp, Act.eval, e2]
   go_simp
  refine ⟨flow_value rfl rfl fun a w h => ?_, ?_⟩
  ·have e44 : _ = Value.pointer (some ⟨A, 0, none⟩) := h.d 44
   have c := h.base.a.cell (i := 0) rfl
   refine ⟨.int .u64 x0, w, ?_, h.base, Or.inl (gb_refl _ _), rfl⟩
   clear h
   simp only [execOp, Act.eval, e44]
   go_simp
  refine ⟨flow_value rfl rfl fun a w h => ?_, ?_⟩
  ·have e3 : _ = Value.pointer (some ⟨B, 0, none⟩) := h.r 3
   refine ⟨.pointer (some ⟨B, 1, none⟩), w, ?_, h.base, Or.inl (gb_refl _ _), rfl⟩
   clear h
   simp only [execOp, Act.eval, e3]
   go_simp
  refine ⟨flow_value rfl rfl fun a w h => ?_, ?_⟩
  ·have e46 : _ = Value.pointer (some ⟨B, 1, none⟩) := h.d 46
   have c := h.base.b.cell (i := 1) rfl
   refine ⟨.int .u64 y1, w, ?_, h.base, Or.inl (gb_refl _ _), rfl⟩
   clear h
   simp only [execOp, Act.eval, e46]
   go_simp
  refine ⟨flow_value rfl rfl fun a w h => ?_, ?_⟩
  ·have e45 : _ = Value.int .u64 x0 := h.d 45
   have e47 : _ = Value.int .u64 y1 := h.d 47
   refine ⟨.agg #[.int .u64 x0, .int .u64 y1], w, ?_, h.base, Or.inl (gb_refl _ _), rfl⟩
   clear h
   simp only [execOp, List.map_toArray, List.map_cons, List.map_nil, Act.eval, e45, e47]
   go_simp
  refine ⟨flow_value rfl rfl fun a w h => ?_, ?_⟩
  ·have e2 : _ = Value.pointer (some ⟨A, 0, none⟩) := h.r 2
   refine ⟨.pointer (some ⟨A, 1, none⟩), w, ?_, h.base, Or.inl (gb_refl _ _), rfl⟩
   clear h
   simp only [execOp, Act.eval, e2]
   go_simp
  refine ⟨flow_value rfl rfl fun a w h => ?_, ?_⟩
  ·have e49 : _ = Value.pointer (some ⟨A, 1, none⟩) := h.d 49
   have c := h.base.a.cell (i := 1) rfl
   refine ⟨.int .u64 x1, w, ?_, h.base, Or.inl (gb_refl _ _), rfl⟩
   clear h
   simp only [execOp, Act.eval, e49]
   go_simp
  refine ⟨flow_value rfl rfl fun a w h => ?_, ?_⟩
  ·have e3 : _ = Value.pointer (some ⟨B, 0, none⟩) := h.r 3
   refine ⟨.pointer (some ⟨B, 0, none⟩), w, ?_, h.base, Or.inl (gb_refl _ _), rfl⟩
   clear h
   simp only [execOp, Act.eval, e3]
   go_simp
  refine ⟨flow_value rfl rfl fun a w h => ?_, ?_⟩
  ·have e51 : _ = Value.pointer (some ⟨B, 0, none⟩) := h.d 51
   have c := h.base.b.cell (i := 0) rfl
   refine ⟨.int .u64 y0, w, ?_, h.base, Or.inl (gb_refl _ _), rfl⟩
   clear h
   simp only [execOp, Act.eval, e51]
   go_simp
  refine ⟨flow_value rfl rfl fun a w h => ?_, ?_⟩
  ·have e50 : _ = Value.int .u64 x1 := h.d 50
   have e52 : _ = Value.int .u64 y0 := h.d 52
   refine ⟨.agg #[.int .u64 x1, .int .u64 y0], w, ?_, h.base, Or.inl (gb_refl _ _), rfl⟩
   clear h
   simp only [execOp, List.map_toArray, List.map_cons, List.map_nil, Act.eval, e50, e52]
   go_simp
  refine ⟨flow_value rfl rfl fun a w h => ?_, ?_⟩
  ·have e2 : _ = Value.pointer (some ⟨A, 0, none⟩) := h.r 2
   refine ⟨.pointer (some ⟨A, 2, none⟩), w, ?_, h.base, Or.inl (gb_refl _ _), rfl⟩
   clear h
   simp only [execOp, Act.eval, e2]
   go_simp
  refine ⟨flow_value rfl rfl fun a w h => ?_, ?_⟩
  ·have e54 : _ = Value.pointer (some ⟨A, 2, none⟩) := h.d 54
   have c := h.base.a.cell (i := 2) rfl
   refine ⟨.int .u64 x2, w, ?_, h.base, Or.inl (gb_refl _ _), rfl⟩
   clear h
   simp only [execOp, Act.eval, e54]
   go_simp
  refine ⟨flow_value rfl rfl fun a w h => ?_, ?_⟩
  ·have e8 : a.tmps.getD 8 undef = .int .u64 z3 := (h.rest 8 (by kernel_rfl)).trans (congrArg (Value.int .u64) Hz3.out)
   refine ⟨.int .u64 z3, w, ?_, h.base, Or.inl (gb_refl _ _), rfl⟩
   clear h
   simp only [execOp, Act.eval, e8]
   go_simp
  refine ⟨flow_value rfl rfl fun a w h => ?_, ?_⟩
  ·have e55 : _ = Value.int .u64 x2 := h.d 55
   have e56 : _ = Value.int .u64 z3 := h.d 56
   refine ⟨.agg #[.int .u64 x2, .int .u64 z3], w, ?_, h.base, Or.inl (gb_refl _ _), rfl⟩
   clear h
   simp only [execOp, List.map_toArray, List.map_cons, List.map_nil, Act.eval, e55, e56]
   go_simp
  refine ⟨flow_value rfl rfl fun a w h => ?_, ?_⟩
  ·have e2 : _ = Value.pointer (some ⟨A, 0, none⟩) := h.r 2
   refine ⟨.pointer (some ⟨A, 3, none⟩), w, ?_, h.base, Or.inl (gb_refl _ _), rfl⟩
   clear h
   simp only [execOp, Act.eval, e2]
   go_simp
  refine ⟨flow_value rfl rfl fun a w h => ?_, ?_⟩
  ·have e58 : _ = Value.pointer (some ⟨A, 3, none⟩) := h.d 58
   have c := h.base.a.cell (i := 3) rfl
   refine ⟨.int .u64 x3, w, ?_, h.base, Or.inl (gb_refl _ _), rfl⟩
   clear h
   simp only [execOp, Act.eval, e58]
   go_simp
  refine ⟨flow_value rfl rfl fun a w h => ?_, ?_⟩
  ·have e7 : a.tmps.getD 7 undef = .int .u64 z2 := (h.rest 7 (by kernel_rfl)).trans (congrArg (Value.int .u64) Hz2.out)
   refine ⟨.int .u64 z2, w, ?_, h.base, Or.inl (gb_refl _ _), rfl⟩
   clear h
   simp only [execOp, Act.eval, e7]
   go_simp
  refine ⟨flow_value rfl rfl fun a w h => ?_, ?_⟩
  ·have e59 : _ = Value.int .u64 x3 := h.d 59
   have e60 : _ = Value.int .u64 z2 := h.d 60
   refine ⟨.agg #[.int .u64 x3, .int .u64 z2], w, ?_, h.base, Or.inl (gb_refl _ _), rfl⟩
   clear h
   simp only [execOp, List.map_toArray, List.map_cons, List.map_nil, Act.eval, e59, e60]
   go_simp
  refine ⟨flow_value rfl rfl fun a w h => ?_, ?_⟩
  ·have e2 : _ = Value.pointer (some ⟨A, 0, none⟩) := h.r 2
   refine ⟨.pointer (some ⟨A, 4, none⟩), w, ?_, h.base, Or.inl (gb_refl _ _), rfl⟩
   clear h
   simp only [execOp, Act.eval, e2]
   go_simp
  refine ⟨flow_value rfl rfl fun a w h => ?_, ?_⟩
  ·have e62 : _ = Value.pointer (some ⟨A, 4, none⟩) := h.d 62
   have c := h.base.a.cell (i := 4) rfl
   refine ⟨.int .u64 x4, w, ?_, h.base, Or.inl (gb_refl _ _), rfl⟩
   clear h
   simp only [execOp, Act.eval, e62]
   go_simp
  refine ⟨flow_value rfl rfl fun a w h => ?_, ?_⟩
  ·have e6 : a.tmps.getD 6 undef = .int .u64 z1 := (h.rest 6 (by kernel_rfl)).trans (congrArg (Value.int .u64) Hz1.out)
   refine ⟨.int .u64 z1, w, ?_, h.base, Or.inl (gb_refl _ _), rfl⟩
   clear h
   simp only [execOp, Act.eval, e6]
   go_simp
  refine ⟨flow_value rfl rfl fun a w h => ?_, ?_⟩
  ·have e63 : _ = Value.int .u64 x4 := h.d 63
   have e64 : _ = Value.int .u64 z1 := h.d 64
   refine ⟨.agg #[.int .u64 x4, .int .u64 z1], w, ?_, h.base, Or.inl (gb_refl _ _), rfl⟩
   clear h
   simp only [execOp, List.map_toArray, List.map_cons, List.map_nil, Act.eval, e63, e64]
   go_simp
  refine ⟨flow_value rfl rfl fun a w h => ?_, ?_⟩
  ·have e48 : _ = Value.agg #[.int .u64 x0, .int .u64 y1] := h.d 48
   have e53 : _ = Value.agg #[.int .u64 x1, .int .u64 y0] := h.d 53
   have e57 : _ = Value.agg #[.int .u64 x2, .int .u64 z3] := h.d 57
   have e61 : _ = Value.agg #[.int .u64 x3, .int .u64 z2] := h.d 61
   have e65 : _ = Value.agg #[.int .u64 x4, .int .u64 z1] := h.d 65
   obtain ⟨_, _, _, _, _, hr5⟩ := h.base.r
   have hs := hr5.lt
   refine ⟨.slice (some ⟨w.heap.size, 0, none⟩) 5 5, w.alloc (.cells #[.int .u64 x0, .int .u64 y1, .int .u64 x1, .int .u64 y0, .int .u64 x2, .int .u64 z3, .int .u64 x3, .int .u64 z2, .int .u64 x4, .int .u64 z1] 110), ?_, h.base.alloc _, Or.inl (World.grownBy_alloc _ _ _), ⟨w.heap.size, by omega, rfl, Blk.new w _ _⟩⟩
   clear h
   simp only [execOp, List.map_toArray, List.map_cons, List.map_nil, Act.eval, e48, e53, e57, e61, e65]
   go_simp
  refine ⟨flow_call rfl rfl fun a w h => ?_, ?_⟩
  ·obtain ⟨PB, hne, e66, hP⟩ : ∃ PB, PB ≠ R ∧ a.tmps.getD 66 undef = .slice (some ⟨PB, 0, none⟩) 5 5 ∧ Blk w PB 110 (flat [(x0, y1), (x1, y0), (x2, z3), (x3, z2), (x4, z1)]) := h.dep 66 (by kernel_rfl)
   have hb := h.base
   refine ⟨62, #[.slice (some ⟨PB, 0, none⟩) 5 5], ?_, ?_⟩
   ·clear h hb hP
    have e66x : a.tmps[66]?.getD undef = .slice (some ⟨PB, 0, none⟩) 5 5 := by simpa using e66
    clear e66
    go_simp
   ·refine (sumUp_any PB 5 _ w _ rfl (by decide) hP ?_).mono ?_
    ·intro p hp; simp only [List.mem_cons, List.not_mem_nil, or_false] at hp; rcases hp with rfl | rfl | rfl | rfl | rfl <;> exact ⟨by assumption, by assumption, by assumption, by assumption⟩
    ·rintro e w1 ⟨rfl, hg⟩; exact ⟨_, rfl, hb.grown hg, Or.inl hg, by show sumV _ = _; rw [HS1.out]; rfl⟩
  refine ⟨flow_value rfl rfl fun a w h => ?_, ?_⟩
  ·have e2 : _ = Value.pointer (some ⟨A, 0, none⟩) := h.r 2
   refine ⟨.pointer (some ⟨A, 0, none⟩), w, ?_, h.base, Or.inl (gb_refl _ _), rfl⟩
   clear h
   simp only [execOp, Act.eval, e2]
   go_simp
  refine ⟨flow_value rfl rfl fun a w h => ?_, ?_⟩
  ·have e68 : _ = Value.pointer (some ⟨A, 0, none⟩) := h.d 68
   have c := h.base.a.cell (i := 0) rfl
   refine ⟨.int .u64 x0, w, ?_, h.base, Or.inl (gb_refl _ _), rfl⟩
   clear h
   simp only [execOp, Act.eval, e68]
   go_simp
  refine ⟨flow_value rfl rfl fun a w h => ?_, ?_⟩
  ·have e3 : _ = Value.pointer (some ⟨B, 0, none⟩) := h.r 3
   refine ⟨.pointer (some ⟨B, 2, none⟩), w, ?_, h.base, Or.inl (gb_refl _ _), rfl⟩
   clear h
   simp only [execOp, Act.eval, e3]
   go_simp
  refine ⟨flow_value rfl rfl fun a w h => ?_, ?_⟩
  ·have e70 : _ = Value.pointer (some ⟨B, 2, none⟩) := h.d 70
   have c := h.base.b.cell (i := 2) rfl
   refine ⟨.int .u64 y2, w, ?_, h.base, Or.inl (gb_refl _ _), rfl⟩
   clear h
   simp only [execOp, Act.eval, e70]
   go_simp
  refine ⟨flow_value rfl rfl fun a w h => ?_, ?_⟩
  ·have e69 : _ = Value.int .u64 x0 := h.d 69
   have e71 : _ = Value.int .u64 y2 := h.d 71
   refine ⟨.agg #[.int .u64 x0, .int .u64 y2], w, ?_, h.base, Or.inl (gb_refl _ _), rfl⟩
   clear h
   simp only [execOp, List.map_toArray, List.map_cons, List.map_nil, Act.eval, e69, e71]
   go_simp
  refine ⟨flow_value rfl rfl fun a w h => ?_, ?_⟩
  ·have e2 : _ = Value.pointer (some ⟨A, 0, none⟩) := h.r 2
   refine ⟨.pointer (some ⟨A, 1, none⟩), w, ?_, h.base, Or.inl (gb_refl _ _), rfl⟩
   clear h
   simp only [execOp, Act.eval, e2]
   go_simp
  refine ⟨flow_value rfl rfl fun a w h => ?_, ?_⟩
  ·have e73 : _ = Value.pointer (some ⟨A, 1, none⟩) := h.d 73
   have c := h.base.a.cell (i := 1) rfl
   refine ⟨.int .u64 x1, w, ?_, h.base, Or.inl (gb_refl _ _), rfl⟩
   clear h
   simp only [execOp, Act.eval, e73]
   go_simp
  refine ⟨flow_value rfl rfl fun a w h => ?_, ?_⟩
  ·have e3 : _ = Value.pointer (some ⟨B, 0, none⟩) := h.r 3
   refine ⟨.pointer (some ⟨B, 1, none⟩), w, ?_, h.base, Or.inl (gb_refl _ _), rfl⟩
   clear h
   simp only [execOp, Act.eval, e3]
   go_simp
  refine ⟨flow_value rfl rfl fun a w h => ?_, ?_⟩
  ·have e75 : _ = Value.pointer (some ⟨B, 1, none⟩) := h.d 75
   have c := h.base.b.cell (i := 1) rfl
   refine ⟨.int .u64 y1, w, ?_, h.base, Or.inl (gb_refl _ _), rfl⟩
   clear h
   simp only [execOp, Act.eval, e75]
   go_simp
  refine ⟨flow_value rfl rfl fun a w h => ?_, ?_⟩
  ·have e74 : _ = Value.int .u64 x1 := h.d 74
   have e76 : _ = Value.int .u64 y1 := h.d 76
   refine ⟨.agg #[.int .u64 x1, .int .u64 y1], w, ?_, h.base, Or.inl (gb_refl _ _), rfl⟩
   clear h
   simp only [execOp, List.map_toArray, List.map_cons, List.map_nil, Act.eval, e74, e76]
   go_simp
  refine ⟨flow_value rfl rfl fun a w h => ?_, ?_⟩
  ·have e2 : _ = Value.pointer (some ⟨A, 0, none⟩) := h.r 2
   refine ⟨.pointer (some ⟨A, 2, none⟩), w, ?_, h.base, Or.inl (gb_refl _ _), rfl⟩
   clear h
   simp only [execOp, Act.eval, e2]
   go_simp
  refine ⟨flow_value rfl rfl fun a w h => ?_, ?_⟩
  ·have e78 : _ = Value.pointer (some ⟨A, 2, none⟩) := h.d 78
   have c := h.base.a.cell (i := 2) rfl
   refine ⟨.int .u64 x2, w, ?_, h.base, Or.inl (gb_refl _ _), rfl⟩
   clear h
   simp only [execOp, Act.eval, e78]
   go_simp
  refine ⟨flow_value rfl rfl fun a w h => ?_, ?_⟩
  ·have e3 : _ = Value.pointer (some ⟨B, 0, none⟩) := h.r 3
   refine ⟨.pointer (some ⟨B, 0, none⟩), w, ?_, h.base, Or.inl (gb_refl _ _), rfl⟩
   clear h
   simp only [execOp, Act.eval, e3]
   go_simp
  refine ⟨flow_value rfl rfl fun a w h => ?_, ?_⟩
  ·have e80 : _ = Value.pointer (some ⟨B, 0, none⟩) := h.d 80
   have c := h.base.b.cell (i := 0) rfl
   refine ⟨.int .u64 y0, w, ?_, h.base, Or.inl (gb_refl _ _), rfl⟩
   clear h
   simp only [execOp, Act.eval, e80]
   go_simp
  refine ⟨flow_value rfl rfl fun a w h => ?_, ?_⟩
  ·have e79 : _ = Value.int .u64 x2 := h.d 79
   have e81 : _ = Value.int .u64 y0 := h.d 81
   refine ⟨.agg #[.int .u64 x2, .int .u64 y0], w, ?_, h.base, Or.inl (gb_refl _ _), rfl⟩
   clear h
   simp only [execOp, List.map_toArray, List.map_cons, List.map_nil, Act.eval, e79, e81]
   go_simp
  refine ⟨flow_value rfl rfl fun a w h => ?_, ?_⟩
  ·have e2 : _ = Value.pointer (some ⟨A, 0, none⟩) := h.r 2
   refine ⟨.pointer (some ⟨A, 3, none⟩), w, ?_, h.base, Or.inl (gb_refl _ _), rfl⟩
   clear h
   simp only [execOp, Act.eval, e2]
   go_simp
  refine ⟨flow_value rfl rfl fun a w h => ?_, ?_⟩
  ·have e83 : _ = Value.pointer (some ⟨A, 3, none⟩) := h.d 83
   have c := h.base.a.cell (i := 3) rfl
   refine ⟨.int .u64 x3, w, ?_, h.base, Or.inl (gb_refl _ _), rfl⟩
   clear h
   simp only [execOp, Act.eval, e83]
   go_simp
  refine ⟨flow_value rfl rfl fun a w h => ?_, ?_⟩
  ·have e8 : a.tmps.getD 8 undef = .int .u64 z3 := (h.rest 8 (by kernel_rfl)).trans (congrArg (Value.int .u64) Hz3.out)
   refine ⟨.int .u64 z3, w, ?_, h.base, Or.inl (gb_refl _ _), rfl⟩
   clear h
   simp only [execOp, Act.eval, e8]
   go_simp
  refine ⟨flow_value rfl rfl fun a w h => ?_, ?_⟩
  ·have e84 : _ = Value.int .u64 x3 := h.d 84
   have e85 : _ = Value.int .u64 z3 := h.d 85
   refine ⟨.agg #[.int .u64 x3, .int .u64 z3], w, ?_, h.base, Or.inl (gb_refl _ _), rfl⟩
   clear h
   simp only [execOp, List.map_toArray, List.map_cons, List.map_nil, Act.eval, e84, e85]
   go_simp
  refine ⟨flow_value rfl rfl fun a w h => ?_, ?_⟩
  ·have e2 : _ = Value.pointer (some ⟨A, 0, none⟩) := h.r 2
   refine ⟨.pointer (some ⟨A, 4, none⟩), w, ?_, h.base, Or.inl (gb_refl _ _), rfl⟩
   clear h
   simp only [execOp, Act.eval, e2]
   go_simp
  refine ⟨flow_value rfl rfl fun a w h => ?_, ?_⟩
  ·have e87 : _ = Value.pointer (some ⟨A, 4, none⟩) := h.d 87
   have c := h.base.a.cell (i := 4) rfl
   refine ⟨.int .u64 x4, w, ?_, h.base, Or.inl (gb_refl _ _), rfl⟩
   clear h
   simp only [execOp, Act.eval, e87]
   go_simp
  refine ⟨flow_value rfl rfl fun a w h => ?_, ?_⟩
  ·have e7 : a.tmps.getD 7 undef = .int .u64 z2 := (h.rest 7 (by kernel_rfl)).trans (congrArg (Value.int .u64) Hz2.out)
   refine ⟨.int .u64 z2, w, ?_, h.base, Or.inl (gb_refl _ _), rfl⟩
   clear h
   simp only [execOp, Act.eval, e7]
   go_simp
  refine ⟨flow_value rfl rfl fun a w h => ?_, ?_⟩
  ·have e88 : _ = Value.int .u64 x4 := h.d 88
   have e89 : _ = Value.int .u64 z2 := h.d 89
   refine ⟨.agg #[.int .u64 x4, .int .u64 z2], w, ?_, h.base, Or.inl (gb_refl _ _), rfl⟩
   clear h
   simp only [execOp, List.map_toArray, List.map_cons, List.map_nil, Act.eval, e88, e89]
   go_simp
  refine ⟨flow_value rfl rfl fun a w h => ?_, ?_⟩
  ·have e72 : _ = Value.agg #[.int .u64 x0, .int .u64 y2] := h.d 72
   have e77 : _ = Value.agg #[.int .u64 x1, .int .u64 y1] := h.d 77
   have e82 : _ = Value.agg #[.int .u64 x2, .int .u64 y0] := h.d 82
   have e86 : _ = Value.agg #[.int .u64 x3, .int .u64 z3] := h.d 86
   have e90 : _ = Value.agg #[.int .u64 x4, .int .u64 z2] := h.d 90
   obtain ⟨_, _, _, _, _, hr5⟩ := h.base.r
   have hs := hr5.lt
   refine ⟨.slice (some ⟨w.heap.size, 0, none⟩) 5 5, w.alloc (.cells #[.int .u64 x0, .int .u64 y2, .int .u64 x1, .int .u64 y1, .int .u64 x2, .int .u64 y0, .int .u64 x3, .int .u64 z3, .int .u64 x4, .int .u64 z2] 110), ?_, h.base.alloc _, Or.inl (World.grownBy_alloc _ _ _), ⟨w.heap.size, by omega, rfl, Blk.new w _ _⟩⟩
   clear h
   simp only [execOp, List.map_toArray, List.map_cons, List.map_nil, Act.eval, e72, e77, e82, e86, e90]
   go_simp
  refine ⟨flow_call rfl rfl fun a w h => ?_, ?_⟩
  ·obtain ⟨PB, hne, e91, hP⟩ : ∃ PB, PB ≠ R ∧ a.tmps.getD 91 undef = .slice (some ⟨PB, 0, none⟩) 5 5 ∧ Blk w PB 110 (flat [(x0, y2), (x1, y1), (x2, y0), (x3, z3), (x4, z2)]) := h.dep 91 (by kernel_rfl)
   have hb := h.base
   refine ⟨62, #[.slice (some ⟨PB, 0, none⟩) 5 5], ?_, ?_⟩
   ·clear h hb hP
    have e91x : a.tmps[91]?.getD undef = .slice (some ⟨PB, 0, none⟩) 5 5 := by simpa using e91
    clear e91
    go_simp
   ·refine (sumUp_any PB 5 _ w _ rfl (by decide) hP ?_).mono ?_
    ·intro p hp; simp only [List.mem_cons, List.not_mem_nil, or_false] at hp; rcases hp with rfl | rfl | rfl | rfl | rfl <;> exact ⟨by assumption, by assumption, by assumption, by assumption⟩
    ·rintro e w1 ⟨rfl, hg⟩; exact ⟨_, rfl, hb.grown hg, Or.inl hg, by show sumV _ = _; rw [HS2.out]; rfl⟩
  refine ⟨flow_value rfl rfl fun a w h => ?_, ?_⟩
  ·have e2 : _ = Value.pointer (some ⟨A, 0, none⟩) := h.r 2
   refine ⟨.pointer (some ⟨A, 0, none⟩), w, ?_, h.base, Or.inl (gb_refl _ _), rfl⟩
   clear h
   simp only [execOp, Act.eval, e2]
   go_simp
  refine ⟨flow_value rfl rfl fun a w h => ?_, ?_⟩
  ·have e93 : _ = Value.pointer (some ⟨A, 0, none⟩) := h.d 93
   have c := h.base.a.cell (i := 0) rfl
   refine ⟨.int .u64 x0, w, ?_, h.base, Or.inl (gb_refl _ _), rfl⟩
   clear h
   simp only [execOp, Act.eval, e93]
   go_simp
  refine ⟨flow_value rfl rfl fun a w h => ?_, ?_⟩
  ·have e3 : _ = Value.pointer (some ⟨B, 0, none⟩) := h.r 3
   refine ⟨.pointer (some ⟨B, 3, none⟩), w, ?_, h.base, Or.inl (gb_refl _ _), rfl⟩
   clear h
   simp only [execOp, Act.eval, e3]
   go_simp
  refine ⟨flow_value rfl rfl fun a w h => ?_, ?_⟩
  ·have e95 : _ = Value.pointer (some ⟨B, 3, none⟩) := h.d 95
   have c := h.base.b.cell (i := 3) rfl
   refine ⟨.int .u64 y3, w, ?_, h.base, Or.inl (gb_refl _ _), rfl⟩
   clear h
   simp only [execOp, Act.eval, e95]
   go_simp
  refine ⟨flow_value rfl rfl fun a w h => ?_, ?_⟩
  ·have e94 : _ = Value.int .u64 x0 := h.d 94
   have e96 : _ = Value.int .u64 y3 := h.d 96
   refine ⟨.agg #[.int .u64 x0, .int .u64 y3], w, ?_, h.base, Or.inl (gb_refl _ _), rfl⟩
   clear h
   simp only [execOp, List.map_toArray, List.map_cons, List.map_nil, Act.eval, e94, e96]
   go_simp
  refine ⟨flow_value rfl rfl fun a w h => ?_, ?_⟩
  ·have e2 : _ = Value.pointer (some ⟨A, 0, none⟩) := h.r 2
   refine ⟨.pointer (some ⟨A, 1, none⟩), w, ?_, h.base, Or.inl (gb_refl _ _), rfl⟩
   clear h
   simp only [execOp, Act.eval, e2]
   go_simp
  refine ⟨flow_value rfl rfl fun a w h => ?_, ?_⟩
  ·have e98 : _ = Value.pointer (some ⟨A, 1, none⟩) := h.d 98
   have c := h.base.a.cell (i := 1) rfl
   refine ⟨.int .u64 x1, w, ?_, h.base, Or.inl (gb_refl _ _), rfl⟩
   clear h
   simp only [execOp, Act.eval, e98]
   go_simp
  refine ⟨flow_value rfl rfl fun a w h => ?_, ?_⟩
  ·have e3 : _ = Value.pointer (some ⟨B, 0, none⟩) := h.r 3
   refine ⟨.pointer (some ⟨B, 2, none⟩), w, ?_, h.base, Or.inl (gb_refl _ _), rfl⟩
   clear h
   simp only [execOp, Act.eval, e3]
   go_simp
  refine ⟨flow_value rfl rfl fun a w h => ?_, ?_⟩
  ·have e100 : _ = Value.pointer (some ⟨B, 2, none⟩) := h.d 100
   have c := h.base.b.cell (i := 2) rfl
   refine ⟨.int .u64 y2, w, ?_, h.base, Or.inl (gb_refl _ _), rfl⟩
   clear h
   simp only [execOp, Act.eval, e100]
   go_simp
  refine ⟨flow_value rfl rfl fun a w h => ?_, ?_⟩
  ·have e99 : _ = Value.int .u64 x1 := h.d 99
   have e101 : _ = Value.int .u64 y2 := h.d 101
   refine ⟨.agg #[.int .u64 x1, .int .u64 y2], w, ?_, h.base, Or.inl (gb_refl _ _), rfl⟩
   clear h
   simp only [execOp, List.map_toArray, List.map_cons, List.map_nil, Act.eval, e99, e101]
   go_simp
  refine ⟨flow_value rfl rfl fun a w h => ?_, ?_⟩
  ·have e2 : _ = Value.pointer (some ⟨A, 0, none⟩) := h.r 2
   refine ⟨.pointer (some ⟨A, 2, none⟩), w, ?_, h.base, Or.inl (gb_refl _ _), rfl⟩
   clear h
   simp only [execOp, Act.eval, e2]
   go_simp
  refine ⟨flow_value rfl rfl fun a w h => ?_, ?_⟩
  ·have e103 : _ = Value.pointer (some ⟨A, 2, none⟩) := h.d 103
   have c := h.base.a.cell (i := 2) rfl
   refine ⟨.int .u64 x2, w, ?_, h.base, Or.inl (gb_refl _ _), rfl⟩
   clear h
   simp only [execOp, Act.eval, e103]
   go_simp
  refine ⟨flow_value rfl rfl fun a w h => ?_, ?_⟩
  ·have e3 : _ = Value.pointer (some ⟨B, 0, none⟩) := h.r 3
   refine ⟨.pointer (some ⟨B, 1, none⟩), w, ?_, h.base, Or.inl (gb_refl _ _), rfl⟩
   clear h
   simp only [execOp, Act.eval, e3]
   go_simp
  refine ⟨flow_value rfl rfl fun a w h => ?_, ?_⟩
  ·have e105 : _ = Value.pointer (some ⟨B, 1, none⟩) := h.d 105
   have c := h.base.b.cell (i := 1) rfl
   refine ⟨.int .u64 y1, w, ?_, h.base, Or.inl (gb_refl _ _), rfl⟩
   clear h
   simp only [execOp, Act.eval, e105]
   go_simp
  refine ⟨flow_value rfl rfl fun a w h => ?_, ?_⟩
  ·have e104 : _ = Value.int .u64 x2 := h.d 104
   have e106 : _ = Value.int .u64 y1 := h.d 106
   refine ⟨.agg #[.int .u64 x2, .int .u64 y1], w, ?_, h.base, Or.inl (gb_refl _ _), rfl⟩
   clear h
   simp only [execOp, List.map_toArray, List.map_cons, List.map_nil, Act.eval, e104, e106]
   go_simp
  refine ⟨flow_value rfl rfl fun a w h => ?_, ?_⟩
  ·have e2 : _ = Value.pointer (some ⟨A, 0, none⟩) := h.r 2
   refine ⟨.pointer (some ⟨A, 3, none⟩), w, ?_, h.base, Or.inl (gb_refl _ _), rfl⟩
   clear h
   simp only [execOp, Act.eval, e2]
   go_simp
  refine ⟨flow_value rfl rfl fun a w h => ?_, ?_⟩
  ·have e108 : _ = Value.pointer (some ⟨A, 3, none⟩) := h.d 108
   have c := h.base.a.cell (i := 3) rfl
   refine ⟨.int .u64 x3, w, ?_, h.base, Or.inl (gb_refl _ _), rfl⟩
   clear h
   simp only [execOp, Act.eval, e108]
   go_simp
  refine ⟨flow_value rfl rfl fun a w h => ?_, ?_⟩
  ·have e3 : _ = Value.pointer (some ⟨B, 0, none⟩) := h.r 3
   refine ⟨.pointer (some ⟨B, 0, none⟩), w, ?_, h.base, Or.inl (gb_refl _ _), rfl⟩
   clear h
   simp only [execOp, Act.eval, e3]
   go_simp
  refine ⟨flow_value rfl rfl fun a w h => ?_, ?_⟩
  ·have e110 : _ = Value.pointer (some ⟨B, 0, none⟩) := h.d 110
   have c := h.base.b.cell (i := 0) rfl
   refine ⟨.int .u64 y0, w, ?_, h.base, Or.inl (gb_refl _ _), rfl⟩
   clear h
   simp only [execOp, Act.eval, e110]
   go_simp
  refine ⟨flow_value rfl rfl fun a w h => ?_, ?_⟩
  ·have e109 : _ = Value.int .u64 x3 := h.d 109
   have e111 : _ = Value.int .u64 y0 := h.d 111
   refine ⟨.agg #[.int .u64 x3, .int .u64 y0], w, ?_, h.base, Or.inl (gb_refl _ _), rfl⟩
   clear h
   simp only [execOp, List.map_toArray, List.map_cons, List.map_nil, Act.eval, e109, e111]
   go_simp
  refine ⟨flow_value rfl rfl fun a w h => ?_, ?_⟩
  ·have e2 : _ = Value.pointer (some ⟨A, 0, none⟩) := h.r 2
   refine ⟨.pointer (some ⟨A, 4, none⟩), w, ?_, h.base, Or.inl (gb_refl _ _), rfl⟩
   clear h
   simp only [execOp, Act.eval, e2]
   go_simp
  refine ⟨flow_value rfl rfl fun a w h => ?_, ?_⟩
  ·have e113 : _ = Value.pointer (some ⟨A, 4, none⟩) := h.d 113
   have c := h.base.a.cell (i := 4) rfl
   refine ⟨.int .u64 x4, w, ?_, h.base, Or.inl (gb_refl _ _), rfl⟩
   clear h
   simp only [execOp, Act.eval, e113]
   go_simp
  refine ⟨flow_value rfl rfl fun a w h => ?_, ?_⟩
  ·have e8 : a.tmps.getD 8 undef = .int .u64 z3 := (h.rest 8 (by kernel_rfl)).trans (congrArg (Value.int .u64) Hz3.out)
   refine ⟨.int .u64 z3, w, ?_, h.base, Or.inl (gb_refl _ _), rfl⟩
   clear h
   simp only [execOp, Act.eval, e8]
   go_simp
  refine ⟨flow_value rfl rfl fun a w h => ?_, ?_⟩
  ·have e114 : _ = Value.int .u64 x4 := h.d 114
   have e115 : _ = Value.int .u64 z3 := h.d 115
   refine ⟨.agg #[.int .u64 x4, .int .u64 z3], w, ?_, h.base, Or.inl (gb_refl _ _), rfl⟩
   clear h
   simp only [execOp, List.map_toArray, List.map_cons, List.map_nil, Act.eval, e114, e115]
   go_simp
  refine ⟨flow_value rfl rfl fun a w h => ?_, ?_⟩
  ·have e97 : _ = Value.agg #[.int .u64 x0, .int .u64 y3] := h.d 97
   have e102 : _ = Value.agg #[.int .u64 x1, .int .u64 y2] := h.d 102
   have e107 : _ = Value.agg #[.int .u64 x2, .int .u64 y1] := h.d 107
   have e112 : _ = Value.agg #[.int .u64 x3, .int .u64 y0] := h.d 112
   have e116 : _ = Value.agg #[.int .u64 x4, .int .u64 z3] := h.d 116
   obtain ⟨_, _, _, _, _, hr5⟩ := h.base.r
   have hs := hr5.lt
   refine ⟨.slice (some ⟨w.heap.size, 0, none⟩) 5 5, w.alloc (.cells #[.int .u64 x0, .int .u64 y3, .int .u64 x1, .int .u64 y2, .int .u64 x2, .int .u64 y1, .int .u64 x3, .int .u64 y0, .int .u64 x4, .int .u64 z3] 110), ?_, h.base.alloc _, Or.inl (World.grownBy_alloc _ _ _), ⟨w.heap.size, by omega, rfl, Blk.new w _ _⟩⟩
   clear h
   simp only [execOp, List.map_toArray, List.map_cons, List.map_nil, Act.eval, e97, e102, e107, e112, e116]
   go_simp
  refine ⟨flow_call rfl rfl fun a w h => ?_, ?_⟩
  ·obtain ⟨PB, hne, e117, hP⟩ : ∃ PB, PB ≠ R ∧ a.tmps.getD 117 undef = .slice (some ⟨PB, 0, none⟩) 5 5 ∧ Blk w PB 110 (flat [(x0, y3), (x1, y2), (x2, y1), (x3, y0), (x4, z3)]) := h.dep 117 (by kernel_rfl)
   have hb := h.base
   refine ⟨62, #[.slice (some ⟨PB, 0, none⟩) 5 5], ?_, ?_⟩
   ·clear h hb hP
    have e117x : a.tmps[117]?.getD undef = .slice (some ⟨PB, 0, none⟩) 5 5 := by simpa using e117
    clear e117
    go_simp
   ·refine (sumUp_any PB 5 _ w _ rfl (by decide) hP ?_).mono ?_
    ·intro p hp; simp only [List.mem_cons, List.not_mem_nil, or_false] at hp; rcases hp with rfl | rfl | rfl | rfl | rfl <;> exact ⟨by assumption, by assumption, by assumption, by assumption⟩
    ·rintro e w1 ⟨rfl, hg⟩; exact ⟨_, rfl, hb.grown hg, Or.inl hg, by show sumV _ = _; rw [HS3.out]; rfl⟩
  refine ⟨flow_value rfl rfl fun a w h => ?_, ?_⟩
  ·have e2 : _ = Value.pointer (some ⟨A, 0, none⟩) := h.r 2
   refine ⟨.pointer (some ⟨A, 0, none⟩), w, ?_, h.base, Or.inl (gb_refl _ _), rfl⟩
   clear h
   simp only [execOp, Act.eval, e2]
   go_simp
  refine ⟨flow_value rfl rfl fun a w h => ?_, ?_⟩
  ·have e119 : _ = Value.pointer (some ⟨A, 0, none⟩) := h.d 119
   have c := h.base.a.cell (i := 0) rfl
   refine ⟨.int .u64 x0, w, ?_, h.base, Or.inl (gb_refl _ _), rfl⟩
   clear h
   simp only [execOp, Act.eval, e119]
   go_simp
  refine ⟨flow_value rfl rfl fun a w h => ?_, ?_⟩
  ·have e3 : _ = Value.pointer (some ⟨B, 0, none⟩) := h.r 3
   refine ⟨.pointer (some ⟨B, 4, none⟩), w, ?_, h.base, Or.inl (gb_refl _ _), rfl⟩
   clear h
   simp only [execOp, Act.eval, e3]
   go_simp
  refine ⟨flow_value rfl rfl fun a w h => ?_, ?_⟩
  ·have e121 : _ = Value.pointer (some ⟨B, 4, none⟩) := h.d 121
   have c := h.base.b.cell (i := 4) rfl
   refine ⟨.int .u64 y4, w, ?_, h.base, Or.inl (gb_refl _ _), rfl⟩
   clear h
   simp only [execOp, Act.eval, e121]
   go_simp
  refine ⟨flow_value rfl rfl fun a w h => ?_, ?_⟩
  ·have e120 : _ = Value.int .u64 x0 := h.d 120
   have e122 : _ = Value.int .u64 y4 := h.d 122
   refine ⟨.agg #[.int .u64 x0, .int .u64 y4], w, ?_, h.base, Or.inl (gb_refl _ _), rfl⟩
   clear h
   simp only [execOp, List.map_toArray, List.map_cons, List.map_nil, Act.eval, e120, e122]
   go_simp
  refine ⟨flow_value rfl rfl fun a w h => ?_, ?_⟩
  ·have e2 : _ = Value.pointer (some ⟨A, 0, none⟩) := h.r 2
   refine ⟨.pointer (some ⟨A, 1, none⟩), w, ?_, h.base, Or.inl (gb_refl _ _), rfl⟩
   clear h
   simp only [execOp, Act.eval, e2]
   go_simp
  refine ⟨flow_value rfl rfl fun a w h => ?_, ?_⟩
  ·have e124 : _ = Value.pointer (some ⟨A, 1, none⟩) := h.d 124
   have c := h.base.a.cell (i := 1) rfl
   refine ⟨.int .u64 x1, w, ?_, h.base, Or.inl (gb_refl _ _), rfl⟩
   clear h
   simp only [execOp, Act.eval, e124]
   go_simp
  refine ⟨flow_value rfl rfl fun a w h => ?_, ?_⟩
  ·have e3 : _ = Value.pointer (some ⟨B, 0, none⟩) := h.r 3
   refine ⟨.pointer (some ⟨B, 3, none⟩), w, ?_, h.base, Or.inl (gb_refl _ _), rfl⟩
   clear h
   simp only [execOp, Act.eval, e3]
   go_simp
  refine ⟨flow_value rfl rfl fun a w h => ?_, ?_⟩
  ·have e126 : _ = Value.pointer (some ⟨B, 3, none⟩) := h.d 126
   have c := h.base.b.cell (i := 3) rfl
   refine ⟨.int .u64 y3, w, ?_, h.base, Or.inl (gb_refl _ _), rfl⟩
   clear h
   simp only [execOp, Act.eval, e126]
   go_simp
  refine ⟨flow_value rfl rfl fun a w h => ?_, ?_⟩
  ·have e125 : _ = Value.int .u64 x1 := h.d 125
   have e127 : _ = Value.int .u64 y3 := h.d 127
   refine ⟨.agg #[.int .u64 x1, .int .u64 y3], w, ?_, h.base, Or.inl (gb_refl _ _), rfl⟩
   clear h
   simp only [execOp, List.map_toArray, List.map_cons, List.map_nil, Act.eval, e125, e127]
   go_simp
  refine ⟨flow_value rfl rfl fun a w h => ?_, ?_⟩
  ·have e2 : _ = Value.pointer (some ⟨A, 0, none⟩) := h.r 2
   refine ⟨.pointer (some ⟨A, 2, none⟩), w, ?_, h.base, Or.inl (gb_refl _ _), rfl⟩
   clear h
   simp only [execOp, Act.eval, e2]
   go_simp
  refine ⟨flow_value rfl rfl fun a w h => ?_, ?_⟩
  ·have e129 : _ = Value.pointer (some ⟨A, 2, none⟩) := h.d 129
   have c := h.base.a.cell (i := 2) rfl
   refine ⟨.int .u64 x2, w, ?_, h.base, Or.inl (gb_refl _ _), rfl⟩
   clear h
   simp only [execOp, Act.eval, e129]
   go_simp
  refine ⟨flow_value rfl rfl fun a w h => ?_, ?_⟩
  ·have e3 : _ = Value.pointer (some ⟨B, 0, none⟩) := h.r 3
   refine ⟨.pointer (some ⟨B, 2, none⟩), w, ?_, h.base, Or.inl (gb_refl _ _), rfl⟩
   clear h
   simp only [execOp, Act.eval, e3]
   go_simp
  refine ⟨flow_value rfl rfl fun a w h => ?_, ?_⟩
  ·have e131 : _ = Value.pointer (some ⟨B, 2, none⟩) := h.d 131
   have c := h.base.b.cell (i := 2) rfl
   refine ⟨.int .u64 y2, w, ?_, h.base, Or.inl (gb_refl _ _), rfl⟩
   clear h
   simp only [execOp, Act.eval, e131]
   go_simp
  refine ⟨flow_value rfl rfl fun a w h => ?_, ?_⟩
  ·have e130 : _ = Value.int .u64 x2 := h.d 130
   have e132 : _ = Value.int .u64 y2 := h.d 132
   refine ⟨.agg #[.int .u64 x2, .int .u64 y2], w, ?_, h.base, Or.inl (gb_refl _ _), rfl⟩
   clear h
   simp only [execOp, List.map_toArray, List.map_cons, List.map_nil, Act.eval, e130, e132]
   go_simp
  refine ⟨flow_value rfl rfl fun a w h => ?_, ?_⟩
  ·have e2 : _ = Value.pointer (some ⟨A, 0, none⟩) := h.r 2
   refine ⟨.pointer (some ⟨A, 3, none⟩), w, ?_, h.base, Or.inl (gb_refl _ _), rfl⟩
   clear h
   simp only [execOp, Act.eval, e2]
   go_simp
  refine ⟨flow_value rfl rfl fun a w h => ?_, ?_⟩
  ·have e134 : _ = Value.pointer (some ⟨A, 3, none⟩) := h.d 134
   have c := h.base.a.cell (i := 3) rfl
   refine ⟨.int .u64 x3, w, ?_, h.base, Or.inl (gb_refl _ _), rfl⟩
   clear h
   simp only [execOp, Act.eval, e134]
   go_simp
  refine ⟨flow_value rfl rfl fun a w h => ?_, ?_⟩
  ·have e3 : _ = Value.pointer (some ⟨B, 0, none⟩) := h.r 3
   refine ⟨.pointer (some ⟨B, 1, none⟩), w, ?_, h.base, Or.inl (gb_refl _ _), rfl⟩
   clear h
   simp only [execOp, Act.eval, e3]
   go_simp
  refine ⟨flow_value rfl rfl fun a w h => ?_, ?_⟩
  ·have e136 : _ = Value.pointer (some ⟨B, 1, none⟩) := h.d 136
   have c := h.base.b.cell (i := 1) rfl
   refine ⟨.int .u64 y1, w, ?_, h.base, Or.inl (gb_refl _ _), rfl⟩
   clear h
   simp only [execOp, Act.eval, e136]
   go_simp
  refine ⟨flow_value rfl rfl fun a w h => ?_, ?_⟩
  ·have e135 : _ = Value.int .u64 x3 := h.d 135
   have e137 : _ = Value.int .u64 y1 := h.d 137
   refine ⟨.agg #[.int .u64 x3, .int .u64 y1], w, ?_, h.base, Or.inl (gb_refl _ _), rfl⟩
   clear h
   simp only [execOp, List.map_toArray, List.map_cons, List.map_nil, Act.eval, e135, e137]
   go_simp
  refine ⟨flow_value rfl rfl fun a w h => ?_, ?_⟩
  ·have e2 : _ = Value.pointer (some ⟨A, 0, none⟩) := h.r 2
   refine ⟨.pointer (some ⟨A, 4, none⟩), w, ?_, h.base, Or.inl (gb_refl _ _), rfl⟩
   clear h
   simp only [execOp, Act.eval, e2]
   go_simp
  refine ⟨flow_value rfl rfl fun a w h => ?_, ?_⟩
  ·have e139 : _ = Value.pointer (some ⟨A, 4, none⟩) := h.d 139
   have c := h.base.a.cell (i := 4) rfl
   refine ⟨.int .u64 x4, w, ?_, h.base, Or.inl (gb_refl _ _), rfl⟩
   clear h
   simp only [execOp, Act.eval, e139]
   go_simp
  refine ⟨flow_value rfl rfl fun a w h => ?_, ?_⟩
  ·have e3 : _ = Value.pointer (some ⟨B, 0, none⟩) := h.r 3
   refine ⟨.pointer (some ⟨B, 0, none⟩), w, ?_, h.base, Or.inl (gb_refl _ _), rfl⟩
   clear h
   simp only [execOp, Act.eval, e3]
   go_simp
  refine ⟨flow_value rfl rfl fun a w h => ?_, ?_⟩
  ·have e141 : _ = Value.pointer (some ⟨B, 0, none⟩) := h.d 141
   have c := h.base.b.cell (i := 0) rfl
   refine ⟨.int .u64 y0, w, ?_, h.base, Or.inl (gb_refl _ _), rfl⟩
   clear h
   simp only [execOp, Act.eval, e141]
   go_simp
  refine ⟨flow_value rfl rfl fun a w h => ?_, ?_⟩
  ·have e140 : _ = Value.int .u64 x4 := h.d 140
   have e142 : _ = Value.int .u64 y0 := h.d 142
   refine ⟨.agg #[.int .u64 x4, .int .u64 y0], w, ?_, h.base, Or.inl (gb_refl _ _), rfl⟩
   clear h
   simp only [execOp, List.map_toArray, List.map_cons, List.map_nil, Act.eval, e140, e142]
   go_simp
  refine ⟨flow_value rfl rfl fun a w h => ?_, ?_⟩
  ·have e123 : _ = Value.agg #[.int .u64 x0, .int .u64 y4] := h.d 123
   have e128 : _ = Value.agg #[.int .u64 x1, .int .u64 y3] := h.d 128
   have e133 : _ = Value.agg #[.int .u64 x2, .int .u64 y2] := h.d 133
   have e138 : _ = Value.agg #[.int .u64 x3, .int .u64 y1] := h.d 138
   have e143 : _ = Value.agg #[.int .u64 x4, .int .u64 y0] := h.d 143
   obtain ⟨_, _, _, _, _, hr5⟩ := h.base.r
   have hs := hr5.lt
   refine ⟨.slice (some ⟨w.heap.size, 0, none⟩) 5 5, w.alloc (.cells #[.int .u64 x0, .int .u64 y4, .int .u64 x1, .int .u64 y3, .int .u64 x2, .int .u64 y2, .int .u64 x3, .int .u64 y1, .int .u64 x4, .int .u64 y0] 110), ?_, h.base.alloc _, Or.inl (World.grownBy_alloc _ _ _), ⟨w.heap.size, by omega, rfl, Blk.new w _ _⟩⟩
   clear h
   simp only [execOp, List.map_toArray, List.map_cons, List.map_nil, Act.eval, e123, e128, e133, e138, e143]
   go_simp
  refine ⟨flow_call rfl rfl fun a w h => ?_, ?_⟩
  ·obtain ⟨PB, hne, e144, hP⟩ : ∃ PB, PB ≠ R ∧ a.tmps.getD 144 undef = .slice (some ⟨PB, 0, none⟩) 5 5 ∧ Blk w PB 110 (flat [(x0, y4), (x1, y3), (x2, y2), (x3, y1), (x4, y0)]) := h.dep 144 (by kernel_rfl)
   have hb := h.base
   refine ⟨62, #[.slice (some ⟨PB, 0, none⟩) 5 5], ?_, ?_⟩
   ·clear h hb hP
    have e144x : a.tmps[144]?.getD undef = .slice (some ⟨PB, 0, none⟩) 5 5 := by simpa using e144
    clear e144
    go_simp
   ·refine (sumUp_any PB 5 _ w _ rfl (by decide) hP ?_).mono ?_
    ·intro p hp; simp only [List.mem_cons, List.not_mem_nil, or_false] at hp; rcases hp with rfl | rfl | rfl | rfl | rfl <;> exact ⟨by assumption, by assumption, by assumption, by assumption⟩
    ·rintro e w1 ⟨rfl, hg⟩; exact ⟨_, rfl, hb.grown hg, Or.inl hg, by show sumV _ = _; rw [HS4.out]; rfl⟩
  refine ⟨flow_value rfl rfl fun a w h => ?_, ?_⟩
  ·have e43 : _ = Value.agg #[.int .u64 (S0 / 18446744073709551616), .int .u64 (S0 % 18446744073709551616)] := h.d 43
   have e67 : _ = Value.agg #[.int .u64 (S1 / 18446744073709551616), .int .u64 (S1 % 18446744073709551616)] := h.d 67
   have e92 : _ = Value.agg #[.int .u64 (S2 / 18446744073709551616), .int .u64 (S2 % 18446744073709551616)] := h.d 92
   have e118 : _ = Value.agg #[.int .u64 (S3 / 18446744073709551616), .int .u64 (S3 % 18446744073709551616)] := h.d 118
   have e145 : _ = Value.agg #[.int .u64 (S4 / 18446744073709551616), .int .u64 (S4 % 18446744073709551616)] := h.d 145
   refine ⟨.agg #[.int .u64 (S0 / 18446744073709551616), .int .u64 (S0 % 18446744073709551616), .int .u64 (S1 / 18446744073709551616), .int .u64 (S1 % 18446744073709551616), .int .u64 (S2 / 18446744073709551616), .int .u64 (S2 % 18446744073709551616), .int .u64 (S3 / 18446744073709551616), .int .u64 (S3 % 18446744073709551616), .int .u64 (S4 / 18446744073709551616), .int .u64 (S4 % 18446744073709551616)], w, ?_, h.base, Or.inl (gb_refl _ _), rfl⟩
   clear h
   simp only [execOp, List.map_toArray, List.map_cons, List.map_nil, Act.eval, e43, e67, e92, e118, e145]
   go_simp
  refine ⟨flow_call rfl rfl fun a w h => ?_, ?_⟩
  ·have e146 : _ = Value.agg #[.int .u64 (S0 / 18446744073709551616), .int .u64 (S0 % 18446744073709551616), .int .u64 (S1 / 18446744073709551616), .int .u64 (S1 % 18446744073709551616), .int .u64 (S2 / 18446744073709551616), .int .u64 (S2 % 18446744073709551616), .int .u64 (S3 / 18446744073709551616), .int .u64 (S3 % 18446744073709551616), .int .u64 (S4 / 18446744073709551616), .int .u64 (S4 % 18446744073709551616)] := h.d 146
   have hb := h.base
   refine ⟨61, #[.agg #[.int .u64 (S0 / 18446744073709551616), .int .u64 (S0 % 18446744073709551616), .int .u64 (S1 / 18446744073709551616), .int .u64 (S1 % 18446744073709551616), .int .u64 (S2 / 18446744073709551616), .int .u64 (S2 % 18446744073709551616), .int .u64 (S3 / 18446744073709551616), .int .u64 (S3 % 18446744073709551616), .int .u64 (S4 / 18446744073709551616), .int .u64 (S4 % 18446744073709551616)]], ?_, ?_⟩
   ·clear h hb
    have e146x : a.tmps[146]?.getD undef = .agg #[.int .u64 (S0 / 18446744073709551616), .int .u64 (S0 % 18446744073709551616), .int .u64 (S1 / 18446744073709551616), .int .u64 (S1 % 18446744073709551616), .int .u64 (S2 / 18446744073709551616), .int .u64 (S2 % 18446744073709551616), .int .u64 (S3 / 18446744073709551616), .int .u64 (S3 % 18446744073709551616), .int .u64 (S4 / 18446744073709551616), .int .u64 (S4 % 18446744073709551616)] := by simpa using e146
    clear e146
    go_simp
   ·refine (join_sums S0 S1 S2 S3 S4 w (by assumption) (by assumption) (by assumption) (by assumption) (by assumption)).mono ?_
    rintro e w1 ⟨rfl, hg⟩
    exact ⟨_, rfl, hb.grown hg, Or.inl hg, by show Fe.v _ = Fe.v _; rw [Hr.out]⟩
  refine ⟨flow_skip rfl rfl fun a w h => ?_, ?_⟩
  ·have e147 : _ = Value.agg #[.int .u64 r.x0, .int .u64 r.x1, .int .u64 r.x2, .int .u64 r.x3, .int .u64 r.x4] := h.d 147
   have e4 : _ = Value.pointer (some ⟨R, 0, none⟩) := h.r 4
   obtain ⟨u0, u1, u2, u3, u4, hR⟩ := h.base.r
   have c0r := hR.cell (i := 0) rfl; have f0r := hR.free 0
   have c1r := hR.cell (i := 1) rfl; have f1r := hR.free 1
   have c2r := hR.cell (i := 2) rfl; have f2r := hR.free 2
   have c3r := hR.cell (i := 3) rfl; have f3r := hR.free 3
   have c4r := hR.cell (i := 4) rfl; have f4r := hR.free 4
   refine ⟨_, ?_, h.base.set5 _ _ _ _ _, Or.inr ⟨gb_set (gb_set (gb_set (gb_set (gb_set (gb_refl _ _) _ _) _ _) _ _) _ _) _ _, h.base.r.set5 _ _ _ _ _⟩, h.base.r.set5 _ _ _ _ _⟩
   clear h
   simp only [execOp, Act.eval, e147, e4]
   go_simp
  trivial
 ·intro a w1 hB hsz hdf hrest hslots hmems
  have hM := hmems 127 _ rfl rfl
  have eR0 : a.tmps.getD 4 undef = .pointer (some ⟨(w.heap.size + 1 + 1), 0, none⟩) := hrest 4 (by kernel_rfl)
  have hg := hB.g
  clear hmems hslots hrest hB
  have eR1 : a.tmps[4]?.getD undef = .pointer (some ⟨(w.heap.size + 1 + 1), 0, none⟩) := by simpa using eR0
  have z0 := hM.cell (i := 0) rfl
  have z1 := hM.cell (i := 1) rfl
  have z2 := hM.cell (i := 2) rfl
  have z3 := hM.cell (i := 3) rfl
  have z4 := hM.cell (i := 4) rfl
  clear hM
  go_wp2
  refine bodyPost_ret (v := .agg #[.int .u64 r.x0, .int .u64 r.x1, .int .u64 r.x2, .int .u64 r.x3, .int .u64 r.x4]) ?_ (by rw [hdf]) ⟨r, ?_, rfl, hg⟩
  ·simp [results, Tryz.results38, go_sem, eR1, z0, z1, z2, z3, z4]
  ·rw [Hr.out, ← HS0.out, ← HS1.out, ← HS2.out, ← HS3.out, ← HS4.out, ← Hz0.out, ← Hz1.out, ← Hz2.out, ← Hz3.out]
   simp only [wrapw]
   rfl
end
end Go.Proofs.YtjfclcoppedmoaaGreatDoor
