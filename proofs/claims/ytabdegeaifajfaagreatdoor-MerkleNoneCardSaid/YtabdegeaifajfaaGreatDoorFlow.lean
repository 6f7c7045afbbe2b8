/- A region that draws its order, by what each operation leaves in its slot: one obligation for each operation, whatever order is drawn. No program is named here. -/
import Derived.Orders
import Derived.WalkKit
namespace Go.Proofs.YtabdegeaifajfaaGreatDoor
open Go
section
variable {P : Program} {ops : Array Oper} {Q : Exit → Act → World → Prop} {G : Nat → Value → World → Prop} {M : Nat → World → Prop} {B : World → Prop} {Rel : World → World → Prop} {a0 : Act}

def notDst (ops : Array Oper) (d : Nat) : Bool := ops.all fun o => o.dst != some d
def isDst (ops : Array Oper) (d : Nat) : Bool := ops.any fun o => o.dst == some d
def waits (ops : Array Oper) (o : Oper) (d : Nat) : Bool := o.after.any fun e => Region.binds .any e && ((ops[e.on]?).bind (·.dst)) == some d
def waitsFor (o : Oper) (j : Nat) : Bool := o.after.any fun e => Region.binds .any e && e.on == j
/-- the state amid a region: what is listed has left in its slot, or in memory, what it should -/
structure Flow (G : Nat → Value → World → Prop) (M : Nat → World → Prop) (B : World → Prop) (a0 : Act) (ops : Array Oper) (listed : Array Bool) (a : Act) (w : World) : Prop where
  base : B w
  size : a.tmps.size = a0.tmps.size
  defers : a.defers = a0.defers
  rest : ∀ d, notDst ops d = true → a.tmps.getD d undef = a0.tmps.getD d undef
  slots : ∀ j oj d, ops[j]? = some oj → listed.getD j false = true → oj.dst = some d → G d (a.tmps.getD d undef) w
  mems : ∀ j oj, ops[j]? = some oj → listed.getD j false = true → oj.dst = none → M j w
/-- the state at one operation: what it waits for has left what it should -/
structure FlowAt (G : Nat → Value → World → Prop) (M : Nat → World → Prop) (B : World → Prop) (a0 : Act) (ops : Array Oper) (o : Oper) (a : Act) (w : World) : Prop where
  base : B w
  size : a.tmps.size = a0.tmps.size
  defers : a.defers = a0.defers
  rest : ∀ d, notDst ops d = true → a.tmps.getD d undef = a0.tmps.getD d undef
  dep : ∀ d, waits ops o d = true → G d (a.tmps.getD d undef) w
  mem : ∀ j oj, ops[j]? = some oj → waitsFor o j = true → oj.dst = none → M j w
/-- what one operation leaves -/
def FlowPost (G : Nat → Value → World → Prop) (M : Nat → World → Prop) (B : World → Prop) (Rel : World → World → Prop) (i : Nat) (o : Oper) (w : World) (v : Value) (w' : World) : Prop :=
  B w' ∧ Rel w w' ∧ match o.dst with | some d => G d v w' | none => M i w'
def FlowStep (P : Program) (Q : Exit → Act → World → Prop) (G : Nat → Value → World → Prop) (M : Nat → World → Prop) (B : World → Prop) (Rel : World → World → Prop) (a0 : Act) (ops : Array Oper) (i : Nat) (o : Oper) : Prop :=
  ∀ a w, FlowAt G M B a0 ops o a w → ops[i]? = some o → wpOp P ops Q i (fun a' w' => ∃ v, a' = a.put o.dst v ∧ FlowPost G M B Rel i o w v w') a w
def FlowSteps (P : Program) (Q : Exit → Act → World → Prop) (G : Nat → Value → World → Prop) (M : Nat → World → Prop) (B : World → Prop) (Rel : World → World → Prop) (a0 : Act) (ops : Array Oper) : Nat → List Oper → Prop
  | _, [] => True
  | i, o :: r => FlowStep P Q G M B Rel a0 ops i o ∧ FlowSteps P Q G M B Rel a0 ops (i + 1) r
theorem flowSteps_get : ∀ (l : List Oper) (i k : Nat) (o : Oper), FlowSteps P Q G M B Rel a0 ops i l → l[k]? = some o → FlowStep P Q G M B Rel a0 ops (i + k) o := by
  intro l
  induction l with
  | nil => intro i k o _ h; simp at h
  | cons x r ih =>
    intro i k o h hk
    cases k with
    | zero => simp at hk; subst hk; exact h.1
    | succ k => have := ih (i + 1) k o h.2 (by simpa using hk); rwa [show i + (k + 1) = i + 1 + k by omega]

/-- each operation waits for earlier ones alone; no slot is written twice; each slot is there -/
def topo (ops : Array Oper) : Bool := (List.range ops.size).all fun i => ((ops[i]?).map fun o => o.after.all fun e => !Region.binds .any e || decide (e.on < i)).getD true
def onceL : List (Option Tmp) → Bool
  | [] => true
  | none :: r => onceL r
  | some d :: r => r.all (· != some d) && onceL r
def once (ops : Array Oper) (n : Nat) : Bool := onceL (ops.toList.map (·.dst)) && ops.all fun o => match o.dst with | some d => decide (d < n) | none => true
theorem onceL_ne : ∀ (l : List (Option Tmp)), onceL l = true → ∀ (i j : Nat) (d d' : Tmp), l[i]? = some (some d) → l[j]? = some (some d') → i ≠ j → d ≠ d' := by
  intro l
  induction l with
  | nil => intro _ i j d d' h; simp at h
  | cons x r ih =>
    intro h i j d d' hi hj hne
    have hr : onceL r = true := by cases x with | none => exact h | some y => simp [onceL] at h; exact h.2
    cases i with
    | zero =>
      cases j with
      | zero => exact absurd rfl hne
      | succ j =>
        simp at hi hj
        subst hi
        simp [onceL] at h
        intro e
        subst e
        exact h.1 _ (List.mem_of_getElem? hj) rfl
    | succ i =>
      cases j with
      | zero =>
        simp at hi hj
        subst hj
        simp [onceL] at h
        intro e
        subst e
        exact h.1 _ (List.mem_of_getElem? hi) rfl
      | succ j => exact ih hr i j d d' (by simpa using hi) (by simpa using hj) (fun e => hne (by rw [e]))
theorem once_ne {n : Nat} (h : once ops n = true) {i j : Nat} {oi oj : Oper} (hi : ops[i]? = some oi) (hj : ops[j]? = some oj) (hne : i ≠ j) {d : Nat} (hd : oi.dst = some d) : oj.dst ≠ some d := by
  intro e
  have h1 : onceL (ops.toList.map (·.dst)) = true := by simp only [once, Bool.and_eq_true] at h; exact h.1
  refine onceL_ne _ h1 i j d d ?_ ?_ hne rfl
  · rw [List.getElem?_map, Array.getElem?_toList, hi]; simp [hd]
  · rw [List.getElem?_map, Array.getElem?_toList, hj]; simp [e]
theorem once_lt {n : Nat} (h : once ops n = true) {i : Nat} {oi : Oper} (hi : ops[i]? = some oi) {d : Nat} (hd : oi.dst = some d) : d < n := by
  simp only [once, Bool.and_eq_true] at h
  have := (Array.all_eq_true_iff_forall_mem.1 h.2) oi (Array.mem_of_getElem? hi)
  simpa [hd] using this
theorem filter_le {α : Type} (p q : α → Bool) (l : List α) (h : ∀ x, q x = true → p x = true) : (l.filter q).length ≤ (l.filter p).length := by
  induction l with
  | nil => simp
  | cons x r ih =>
    by_cases hq : q x = true
    · simp [hq, h x hq, ih]
    · by_cases hp : p x = true
      · simp [hq, hp]; omega
      · simp [hq, hp, ih]
theorem filter_lt {α : Type} (p q : α → Bool) (l : List α) (h : ∀ x, q x = true → p x = true) (x : α) (hx : x ∈ l) (hp : p x = true) (hq : q x = false) : (l.filter q).length < (l.filter p).length := by
  induction l with
  | nil => cases hx
  | cons y r ih =>
    have hle := filter_le p q r h
    rcases List.mem_cons.1 hx with e | e
    · subst e; simp [hp, hq]; omega
    · have := ih e
      by_cases hqy : q y = true
      · simp [hqy, h y hqy, this]
      · by_cases hpy : p y = true
        · simp [hqy, hpy]; omega
        · simp [hqy, hpy, this]
def unlisted (ops : Array Oper) (listed : Array Bool) : Nat := ((List.range ops.size).filter fun i => !listed.getD i true).length
theorem unlisted_lt {listed : Array Bool} {i : Nat} (h : i ∈ Region.ready .any ops listed) : unlisted ops (listed.setIfInBounds i true) < unlisted ops listed := by
  obtain ⟨h0, o, ho, _⟩ := mem_ready.1 h
  have hi : i < ops.size := by
    rcases Nat.lt_or_ge i ops.size with h' | h'
    · exact h'
    · rw [Array.getElem?_eq_none h'] at ho; cases ho
  have hset : (listed.setIfInBounds i true).getD i true = true := by
    rcases Nat.lt_or_ge i listed.size with h' | h'
    · simp [h']
    · simp [Array.getElem?_eq_none (show (listed.setIfInBounds i true).size ≤ i by simpa using h')]
  refine filter_lt _ _ _ (fun x hx => ?_) i (List.mem_range.2 hi) (by rw [h0]; rfl) (by rw [hset]; rfl)
  by_cases e : i = x
  · subst e; rw [hset] at hx; cases hx
  · rwa [getD_set_ne true e] at hx
theorem all_listed (ht : topo ops = true) {listed : Array Bool} (hs : listed.size = ops.size) (hr : Region.ready .any ops listed = []) : ∀ i, i < ops.size → listed.getD i false = true := by
  intro i
  induction i using Nat.strongRecOn with
  | _ i ih =>
    intro hi
    by_cases hl : listed.getD i false = true
    · exact hl
    have hi' : i < listed.size := by omega
    have hf : listed.getD i true = false := by
      simp [hi'] at hl ⊢; exact hl
    have : i ∈ Region.ready .any ops listed := mem_ready.2 ⟨hf, ops[i], Array.getElem?_eq_getElem hi, fun e he hb => by
      have h1 := (List.all_eq_true.1 ht) i (List.mem_range.2 hi)
      rw [Array.getElem?_eq_getElem hi] at h1
      have h2 : (ops[i].after.all fun e => !Region.binds .any e || decide (e.on < i)) = true := h1
      have h3 : e.on < i := by
        have := (Array.all_eq_true_iff_forall_mem.1 h2) e he
        simpa [hb] using this
      exact ih e.on h3 (by omega)⟩
    rw [hr] at this
    cases this
theorem flow_any (ht : topo ops = true) (ho : once ops a0.tmps.size = true) (stab : ∀ d u w w', Rel w w' → G d u w → G d u w') (stabM : ∀ j w w', Rel w w' → M j w → M j w')
    (steps : FlowSteps P Q G M B Rel a0 ops 0 ops.toList)
    (fin : ∀ a w, B w → a.tmps.size = a0.tmps.size → a.defers = a0.defers → (∀ d, notDst ops d = true → a.tmps.getD d undef = a0.tmps.getD d undef) → (∀ d, isDst ops d = true → G d (a.tmps.getD d undef) w) →
      (∀ j oj, ops[j]? = some oj → oj.dst = none → M j w) → Q .normal a w) :
    ∀ (fuel : Nat) (listed : Array Bool) (a : Act) (w : World), listed.size = ops.size → unlisted ops listed ≤ fuel → Flow G M B a0 ops listed a w → wpAny P .any ops Q fuel listed a w := by
  have inn : ∀ {j : Nat} {oj : Oper}, ops[j]? = some oj → j < ops.size := by
    intro j oj hj
    rcases Nat.lt_or_ge j ops.size with h' | h'
    · exact h'
    · rw [Array.getElem?_eq_none h'] at hj; cases hj
  have go : ∀ (listed : Array Bool) (a : Act) (w : World), listed.size = ops.size → Flow G M B a0 ops listed a w → Region.ready .any ops listed = [] → Q .normal a w := by
    intro listed a w hs hF hr
    have hall := all_listed ht hs hr
    refine fin a w hF.base hF.size hF.defers hF.rest (fun d hd => ?_) (fun j oj hj hn => hF.mems j oj hj (hall j (inn hj)) hn)
    obtain ⟨k, hk, hb⟩ := Array.any_eq_true.1 hd
    exact hF.slots k ops[k] d (Array.getElem?_eq_getElem hk) (hall k hk) (by simpa using hb)
  intro fuel
  induction fuel with
  | zero =>
    intro listed a w hs hu hF
    have hr : Region.ready .any ops listed = [] := by
      cases hc : Region.ready .any ops listed with
      | nil => rfl
      | cons x r =>
        have := unlisted_lt (ops := ops) (listed := listed) (i := x) (by rw [hc]; exact List.mem_cons_self ..)
        omega
    exact ⟨hr, go listed a w hs hF hr⟩
  | succ fuel ih =>
    intro listed a w hs hu hF
    refine ⟨go listed a w hs hF, fun i hi => ?_⟩
    obtain ⟨h0, o, hoi, hall⟩ := mem_ready.1 hi
    have hst := flowSteps_get ops.toList 0 i o steps (by rw [Array.getElem?_toList]; exact hoi)
    rw [Nat.zero_add] at hst
    have hat : FlowAt G M B a0 ops o a w := ⟨hF.base, hF.size, hF.defers, hF.rest, fun d hd => by
        obtain ⟨k, hk, hb⟩ := Array.any_eq_true.1 hd
        simp only [Bool.and_eq_true, beq_iff_eq] at hb
        have hl := hall _ (Array.getElem_mem hk) hb.1
        cases hx : ops[o.after[k].on]? with
        | none => rw [hx] at hb; cases hb.2
        | some oj => rw [hx] at hb; exact hF.slots _ oj d hx hl hb.2,
      fun j oj hj ha hn => by
        obtain ⟨k, hk, hb⟩ := Array.any_eq_true.1 ha
        simp only [Bool.and_eq_true, beq_iff_eq] at hb
        have hl := hall _ (Array.getElem_mem hk) hb.1
        rw [hb.2] at hl
        exact hF.mems j oj hj hl hn⟩
    refine wpOp_mono (fun a' w' h => ?_) (hst a w hat hoi)
    obtain ⟨v, rfl, hB, hR, hG⟩ := h
    have hlt := unlisted_lt hi
    refine ih _ _ _ (by simpa using hs) (by omega) ⟨hB, ?_, ?_, ?_, ?_, ?_⟩
    · rw [← hF.size]; cases o.dst <;> simp [Act.put]
    · rw [← hF.defers]; cases o.dst <;> simp [Act.put]
    · intro d hd
      rw [← hF.rest d hd]
      have hne : o.dst ≠ some d := by
        have := (Array.all_eq_true_iff_forall_mem.1 hd) o (Array.mem_of_getElem? hoi)
        simpa using this
      cases hod : o.dst with
      | none => rfl
      | some d' => rw [hod] at hne; simp [Act.put, Array.getElem?_setIfInBounds_ne (show d' ≠ d from fun e => hne (by rw [e]))]
    · intro j oj d hj hl hd
      by_cases e : i = j
      · subst e
        rw [hoi] at hj
        cases hj
        have hd2 := once_lt ho hoi hd
        rw [← hF.size] at hd2
        rw [hd] at hG ⊢
        simpa [Act.put, hd2] using hG
      · rw [getD_set_ne false e] at hl
        have h1 := hF.slots j oj d hj hl hd
        have hv : (a.put o.dst v).tmps.getD d undef = a.tmps.getD d undef := by
          cases hod : o.dst with
          | none => rfl
          | some d' =>
            have := once_ne ho hoi hj e hod
            rw [hd] at this
            simp [Act.put, Array.getElem?_setIfInBounds_ne (show d' ≠ d from fun e => this (by rw [e]))]
        rw [hv]
        exact stab d _ w w' hR h1
    · intro j oj hj hl hn
      by_cases e : i = j
      · subst e
        rw [hoi] at hj
        cases hj
        rw [hn] at hG
        exact hG
      · rw [getD_set_ne false e] at hl
        exact stabM j w w' hR (hF.mems j oj hj hl hn)
/-- A REGION THAT DRAWS ITS ORDER, by one obligation for each operation. G d v w: what slot d has; M j w: what operation j, that has no slot, has done; B: what holds of memory throughout; Rel: what one operation may do to memory. -/
theorem wp_region_flow {id : Nat} {w : World} (G : Nat → Value → World → Prop) (M : Nat → World → Prop) (B : World → Prop) (Rel : World → World → Prop) (hm : P.follows .mixedOrders = true) (ht : topo ops = true) (ho : once ops a0.tmps.size = true) (hB : B w.drew)
    (stab : ∀ d u w w', Rel w w' → G d u w → G d u w') (stabM : ∀ j w w', Rel w w' → M j w → M j w') (steps : FlowSteps P Q G M B Rel a0 ops 0 ops.toList)
    (fin : ∀ a w, B w → a.tmps.size = a0.tmps.size → a.defers = a0.defers → (∀ d, notDst ops d = true → a.tmps.getD d undef = a0.tmps.getD d undef) → (∀ d, isDst ops d = true → G d (a.tmps.getD d undef) w) →
      (∀ j oj, ops[j]? = some oj → oj.dst = none → M j w) → Q .normal a w) : (Code.region id ops true).wp P Q a0 w :=
  wp_region_any hm (flow_any ht ho stab stabM steps fin ops.size _ a0 _ (by simp) (by unfold unlisted; exact Nat.le_trans (List.length_filter_le _ _) (by simp))
    ⟨hB, rfl, rfl, fun _ _ => rfl, fun j oj d _ hl _ => by
      by_cases h : j < ops.size <;> simp [h] at hl, fun j oj _ hl _ => by
      by_cases h : j < ops.size <;> simp [h] at hl⟩)

theorem wanted_none {o : Oper} (h : o.guard = none) (f : Nat → Option Bool) : Region.wanted o f = true := by simp [Region.wanted, h]
/-- an operation that yields a value -/
theorem flow_value {i : Nat} {o : Oper} {d : Nat} (hd : o.dst = some d) (hg : o.guard = none) (h : ∀ a w, FlowAt G M B a0 ops o a w → ∃ v w', (execOp a.eval o).run P w = .ok (.value v) w' ∧ B w' ∧ Rel w w' ∧ G d v w') : FlowStep P Q G M B Rel a0 ops i o := by
  intro a w hF hi
  obtain ⟨v, w', hr, hB, hR, hG⟩ := h a w hF
  unfold wpOp
  simp only [hi, wanted_none hg, if_true]
  refine Or.inl ?_
  unfold Oper.wp
  rw [hr]
  exact ⟨v, rfl, hB, hR, by rw [hd]; exact hG⟩
/-- an operation that leaves no value -/
theorem flow_skip {i : Nat} {o : Oper} (hd : o.dst = none) (hg : o.guard = none) (h : ∀ a w, FlowAt G M B a0 ops o a w → ∃ w', (execOp a.eval o).run P w = .ok .skip w' ∧ B w' ∧ Rel w w' ∧ M i w') : FlowStep P Q G M B Rel a0 ops i o := by
  intro a w hF hi
  obtain ⟨w', hr, hB, hR, hG⟩ := h a w hF
  unfold wpOp
  simp only [hi, wanted_none hg, if_true]
  refine Or.inl ?_
  unfold Oper.wp
  rw [hr]
  exact ⟨undef, rfl, hB, hR, by rw [hd]; exact hG⟩
/-- a call -/
theorem flow_call {i : Nat} {o : Oper} {d : Nat} (hd : o.dst = some d) (hg : o.guard = none)
    (h : ∀ a w, FlowAt G M B a0 ops o a w → ∃ f args, (execOp a.eval o).run P w = .ok (.enter f args) w ∧ Calls P f args w fun e w' => ∃ v, e = .returned v ∧ B w' ∧ Rel w w' ∧ G d v w') : FlowStep P Q G M B Rel a0 ops i o := by
  intro a w hF hi
  obtain ⟨f, args, hr, hc⟩ := h a w hF
  unfold wpOp
  simp only [hi, wanted_none hg, if_true]
  refine Or.inl ?_
  unfold Oper.wp
  rw [hr]
  refine Calls.mono hc fun e w' he => ?_
  obtain ⟨v, rfl, hB, hR, hG⟩ := he
  exact ⟨v, rfl, hB, hR, by rw [hd]; exact hG⟩
end
end Go.Proofs.YtabdegeaifajfaaGreatDoor
