/- texts merged, part 2: XFlow2 XFlow3 XFlowG XKept XOwnRows XFlat XFlatGrow XPut XFlatB XFlatNil XBag XApart XOwnDown XOuts XScMulsLaw XScRefBits XFtFlat XFtGrow XFtPut XFtB -/
import Derived.Test.YtmnlidfalhjghaaGreatDoorRdB1
import Derived.WalkKit
import Derived.BigRegion
import Derived.RegionTactic
import Derived.Deep.RegionWith
import Derived.IntWalk
/- A region that draws its order, as in XFlow; what a store has done may be told of the address that stands in a slot (the slot st j of operation j). No program is named here. -/
namespace Go.Proofs.YtmnlidfalhjghaaGreatDoor
open Go
section
variable {P : Program} {ops : Array Oper} {Q : Exit → Act → World → Prop} {G : Nat → Value → World → Prop} {st : Nat → Nat} {M : Nat → Value → World → Prop} {B : World → Prop} {Rel : World → World → Prop} {a0 : Act}

structure Flow2 (G : Nat → Value → World → Prop) (st : Nat → Nat) (M : Nat → Value → World → Prop) (B : World → Prop) (a0 : Act) (ops : Array Oper) (listed : Array Bool) (a : Act) (w : World) : Prop where
  base : B w
  size : a.tmps.size = a0.tmps.size
  defers : a.defers = a0.defers
  rest : ∀ d, notDst ops d = true → a.tmps.getD d undef = a0.tmps.getD d undef
  slots : ∀ j oj d, ops[j]? = some oj → listed.getD j false = true → oj.dst = some d → G d (a.tmps.getD d undef) w
  mems : ∀ j oj, ops[j]? = some oj → listed.getD j false = true → oj.dst = none → M j (a.tmps.getD (st j) undef) w
  closed : ∀ j oj, ops[j]? = some oj → listed.getD j false = true → ∀ e ∈ oj.after, Region.binds .any e = true → listed.getD e.on false = true
structure FlowAt2 (G : Nat → Value → World → Prop) (st : Nat → Nat) (M : Nat → Value → World → Prop) (B : World → Prop) (a0 : Act) (ops : Array Oper) (o : Oper) (a : Act) (w : World) : Prop where
  base : B w
  rest : ∀ d, notDst ops d = true → a.tmps.getD d undef = a0.tmps.getD d undef
  dep : ∀ d, waits ops o d = true → G d (a.tmps.getD d undef) w
  mem : ∀ j oj, ops[j]? = some oj → waitsFor o j = true → oj.dst = none → M j (a.tmps.getD (st j) undef) w
def FlowPost2 (G : Nat → Value → World → Prop) (st : Nat → Nat) (M : Nat → Value → World → Prop) (B : World → Prop) (Rel : World → World → Prop) (i : Nat) (o : Oper) (a : Act) (w : World) (v : Value) (w' : World) : Prop :=
  B w' ∧ Rel w w' ∧ match o.dst with | some d => G d v w' | none => M i (a.tmps.getD (st i) undef) w'
def FlowStep2 (P : Program) (Q : Exit → Act → World → Prop) (G : Nat → Value → World → Prop) (st : Nat → Nat) (M : Nat → Value → World → Prop) (B : World → Prop) (Rel : World → World → Prop) (a0 : Act) (ops : Array Oper) (i : Nat) (o : Oper) : Prop :=
  ∀ a w, FlowAt2 G st M B a0 ops o a w → ops[i]? = some o → wpOp P ops Q i (fun a' w' => ∃ v, a' = a.put o.dst v ∧ FlowPost2 G st M B Rel i o a w v w') a w
def FlowSteps2 (P : Program) (Q : Exit → Act → World → Prop) (G : Nat → Value → World → Prop) (st : Nat → Nat) (M : Nat → Value → World → Prop) (B : World → Prop) (Rel : World → World → Prop) (a0 : Act) (ops : Array Oper) : Nat → List Oper → Prop
  | _, [] => True
  | i, o :: r => FlowStep2 P Q G st M B Rel a0 ops i o ∧ FlowSteps2 P Q G st M B Rel a0 ops (i + 1) r
theorem flowSteps2_get : ∀ (l : List Oper) (i k : Nat) (o : Oper), FlowSteps2 P Q G st M B Rel a0 ops i l → l[k]? = some o → FlowStep2 P Q G st M B Rel a0 ops (i + k) o := by
  intro l
  induction l with
  | nil => intro i k o h hk; simp at hk
  | cons x r ih =>
    intro i k o h hk
    cases k with
    | zero => simp at hk; subst hk; exact h.1
    | succ k => have := ih (i + 1) k o h.2 (by simpa using hk); rwa [show i + (k + 1) = i + 1 + k by omega]
/-- each store's slot is one that it waits for, or that nobody writes -/
def stOk (ops : Array Oper) (st : Nat → Nat) : Bool := (List.range ops.size).all fun j => ((ops[j]?).map fun o => o.dst.isSome || waits ops o (st j) || notDst ops (st j)).getD true
theorem flow2_any (ht : topo ops = true) (ho : once ops a0.tmps.size = true) (stab : ∀ d u w w', Rel w w' → G d u w → G d u w') (stabM : ∀ j u w w', Rel w w' → M j u w → M j u w') (hstk : stOk ops st = true)
    (steps : FlowSteps2 P Q G st M B Rel a0 ops 0 ops.toList)
    (fin : ∀ a w, B w → a.tmps.size = a0.tmps.size → a.defers = a0.defers → (∀ d, notDst ops d = true → a.tmps.getD d undef = a0.tmps.getD d undef) → (∀ d, isDst ops d = true → G d (a.tmps.getD d undef) w) →
      (∀ j oj, ops[j]? = some oj → oj.dst = none → M j (a.tmps.getD (st j) undef) w) → Q .normal a w) :
    ∀ (fuel : Nat) (listed : Array Bool) (a : Act) (w : World), listed.size = ops.size → unlisted ops listed ≤ fuel → Flow2 G st M B a0 ops listed a w → wpAny P .any ops Q fuel listed a w := by
  have inn : ∀ {j : Nat} {oj : Oper}, ops[j]? = some oj → j < ops.size := by
    intro j oj hj
    rcases Nat.lt_or_ge j ops.size with h' | h'
    · exact h'
    · rw [Array.getElem?_eq_none h'] at hj; cases hj
  have go : ∀ (listed : Array Bool) (a : Act) (w : World), listed.size = ops.size → Flow2 G st M B a0 ops listed a w → Region.ready .any ops listed = [] → Q .normal a w := by
    intro listed a w hs hF hr
    have hall := all_listed ht hs hr
    refine fin a w hF.base hF.size hF.defers hF.rest (fun d hd => ?_) (fun j oj hj hn => hF.mems j oj hj (hall j (inn hj)) hn)
    obtain ⟨k, hk, hb⟩ := Array.any_eq_true.1 hd
    exact hF.slots k ops[k] d (Array.getElem?_eq_getElem hk) (hall k hk) (by simpa using hb)
  intro fuel
  induction fuel with
  | zero =>
    intro listed a w hs hu hF
    have hr : Region.ready .any ops listed = [] := by
      cases hc : Region.ready .any ops listed with
      | nil => rfl
      | cons x r =>
        have := unlisted_lt (ops := ops) (listed := listed) (i := x) (by rw [hc]; exact List.mem_cons_self ..)
        omega
    exact ⟨hr, go listed a w hs hF hr⟩
  | succ fuel ih =>
    intro listed a w hs hu hF
    refine ⟨go listed a w hs hF, fun i hi => ?_⟩
    obtain ⟨h0, o, hoi, hall⟩ := mem_ready.1 hi
    have hst := flowSteps2_get ops.toList 0 i o steps (by rw [Array.getElem?_toList]; exact hoi)
    rw [Nat.zero_add] at hst
    have hat : FlowAt2 G st M B a0 ops o a w := ⟨hF.base, hF.rest, fun d hd => by
        obtain ⟨k, hk, hb⟩ := Array.any_eq_true.1 hd
        simp only [Bool.and_eq_true, beq_iff_eq] at hb
        have hl := hall _ (Array.getElem_mem hk) hb.1
        cases hx : ops[o.after[k].on]? with
        | none => rw [hx] at hb; cases hb.2
        | some oj => rw [hx] at hb; exact hF.slots _ oj d hx hl hb.2,
      fun j oj hj ha hn => by
        obtain ⟨k, hk, hb⟩ := Array.any_eq_true.1 ha
        simp only [Bool.and_eq_true, beq_iff_eq] at hb
        have hl := hall _ (Array.getElem_mem hk) hb.1
        rw [hb.2] at hl
        exact hF.mems j oj hj hl hn⟩
    refine wpOp_mono (fun a' w' h => ?_) (hst a w hat hoi)
    obtain ⟨v, rfl, hB, hR, hG⟩ := h
    have hlt := unlisted_lt hi
    refine ih _ _ _ (by simpa using hs) (by omega) ⟨hB, ?_, ?_, ?_, ?_, ?_, ?_⟩
    · rw [← hF.size]; cases o.dst <;> simp [Act.put]
    · rw [← hF.defers]; cases o.dst <;> simp [Act.put]
    · intro d hd
      rw [← hF.rest d hd]
      have hne : o.dst ≠ some d := by
        have := (Array.all_eq_true_iff_forall_mem.1 hd) o (Array.mem_of_getElem? hoi)
        simpa using this
      cases hod : o.dst with
      | none => rfl
      | some d' => rw [hod] at hne; simp [Act.put, Array.getElem?_setIfInBounds_ne (show d' ≠ d from fun e => hne (by rw [e]))]
    · intro j oj d hj hl hd
      by_cases e : i = j
      · subst e
        rw [hoi] at hj
        cases hj
        have hd2 := once_lt ho hoi hd
        rw [← hF.size] at hd2
        rw [hd] at hG ⊢
        simpa [Act.put, hd2] using hG
      · rw [getD_set_ne false e] at hl
        have h1 := hF.slots j oj d hj hl hd
        have hv : (a.put o.dst v).tmps.getD d undef = a.tmps.getD d undef := by
          cases hod : o.dst with
          | none => rfl
          | some d' =>
            have := once_ne ho hoi hj e hod
            rw [hd] at this
            simp [Act.put, Array.getElem?_setIfInBounds_ne (show d' ≠ d from fun e => this (by rw [e]))]
        rw [hv]
        exact stab d _ w w' hR h1
    · intro j oj hj hl hn
      have hv : ∀ jj ojj, ops[jj]? = some ojj → ojj.dst = none → (jj = i ∨ listed.getD jj false = true) → (a.put o.dst v).tmps.getD (st jj) undef = a.tmps.getD (st jj) undef := by
        intro jj ojj hjj hnn hcase
        cases hod : o.dst with
        | none => rfl
        | some d' =>
          have hne : d' ≠ st jj := by
            intro he
            have hs1 := (List.all_eq_true.1 hstk) jj (List.mem_range.2 (inn hjj))
            rw [hjj] at hs1
            simp only [Option.map_some, Option.getD_some, hnn, Option.isSome_none, Bool.false_or, Bool.or_eq_true] at hs1
            rcases hs1 with hs1 | hs1
            · obtain ⟨k, hk, hb⟩ := Array.any_eq_true.1 hs1
              simp only [Bool.and_eq_true, beq_iff_eq] at hb
              rcases hcase with hc | hc
              · subst hc
                rw [hoi] at hjj
                cases hjj
                rw [hod] at hnn
                cases hnn
              · have hl2 := hF.closed jj ojj hjj hc _ (Array.getElem_mem hk) hb.1
                cases hx : ops[ojj.after[k].on]? with
                | none => rw [hx] at hb; cases hb.2
                | some ok =>
                  rw [hx] at hb
                  have hdk : ok.dst = some (st jj) := hb.2
                  by_cases hki : ojj.after[k].on = i
                  · rw [hki] at hl2
                    have hlt2 : i < listed.size := by rw [hs]; exact inn hoi
                    simp [hlt2] at h0 hl2
                    rw [h0] at hl2
                    cases hl2
                  · exact once_ne ho hx hoi hki hdk (by rw [hod, he])
            · have := (Array.all_eq_true_iff_forall_mem.1 hs1) o (Array.mem_of_getElem? hoi)
              rw [hod, he] at this
              simp at this
          simp [Act.put, Array.getElem?_setIfInBounds_ne hne]
      by_cases e : i = j
      · subst e
        rw [hv i oj hj hn (Or.inl rfl)]
        rw [hoi] at hj
        cases hj
        rw [hn] at hG
        exact hG
      · rw [getD_set_ne false e] at hl
        rw [hv j oj hj hn (Or.inr hl)]
        exact stabM j _ w w' hR (hF.mems j oj hj hl hn)
    · intro j oj hj hl e he hb
      by_cases ei : i = j
      · subst ei
        rw [hoi] at hj
        cases hj
        exact getD_set_true (hall e he hb)
      · rw [getD_set_ne false ei] at hl
        exact getD_set_true (hF.closed j oj hj hl e he hb)
/-- A REGION THAT DRAWS ITS ORDER, by one obligation for each operation. G d v w: what slot d has; M j w: what operation j, that has no slot, has done; B: what holds of memory throughout; Rel: what one operation may do to memory. -/
theorem wp_region_flow2 {id : Nat} {w : World} (G : Nat → Value → World → Prop) (st : Nat → Nat) (M : Nat → Value → World → Prop) (B : World → Prop) (Rel : World → World → Prop) (hm : P.follows .mixedOrders = true) (ht : topo ops = true) (ho : once ops a0.tmps.size = true) (hB : B w.drew)
    (stab : ∀ d u w w', Rel w w' → G d u w → G d u w') (stabM : ∀ j u w w', Rel w w' → M j u w → M j u w') (hstk : stOk ops st = true) (steps : FlowSteps2 P Q G st M B Rel a0 ops 0 ops.toList)
    (fin : ∀ a w, B w → a.tmps.size = a0.tmps.size → a.defers = a0.defers → (∀ d, notDst ops d = true → a.tmps.getD d undef = a0.tmps.getD d undef) → (∀ d, isDst ops d = true → G d (a.tmps.getD d undef) w) →
      (∀ j oj, ops[j]? = some oj → oj.dst = none → M j (a.tmps.getD (st j) undef) w) → Q .normal a w) : (Code.region id ops true).wp P Q a0 w :=
  wp_region_any hm (flow2_any ht ho stab stabM hstk steps fin ops.size _ a0 _ (by simp) (by unfold unlisted; exact Nat.le_trans (List.length_filter_le _ _) (by simp))
    ⟨hB, rfl, rfl, fun _ _ => rfl, fun j oj d _ hl _ => by
      by_cases h : j < ops.size <;> simp [h] at hl, fun j oj _ hl _ => by
      by_cases h : j < ops.size <;> simp [h] at hl, fun j oj _ hl => by
      by_cases h : j < ops.size <;> simp [h] at hl⟩)

/-- an operation that yields a value -/
theorem flow2_value {i : Nat} {o : Oper} {d : Nat} (hd : o.dst = some d) (hg : o.guard = none) (h : ∀ a w, FlowAt2 G st M B a0 ops o a w → ∃ v w', (execOp a.eval o).run P w = .ok (.value v) w' ∧ B w' ∧ Rel w w' ∧ G d v w') : FlowStep2 P Q G st M B Rel a0 ops i o := by
  intro a w hF hi
  obtain ⟨v, w', hr, hB, hR, hG⟩ := h a w hF
  unfold wpOp
  simp only [hi, wanted_none hg, if_true]
  refine Or.inl ?_
  unfold Oper.wp
  rw [hr]
  exact ⟨v, rfl, hB, hR, by rw [hd]; exact hG⟩
/-- an operation that leaves no value -/
theorem flow2_skip {i : Nat} {o : Oper} (hd : o.dst = none) (hg : o.guard = none) (h : ∀ a w, FlowAt2 G st M B a0 ops o a w → ∃ w', (execOp a.eval o).run P w = .ok .skip w' ∧ B w' ∧ Rel w w' ∧ M i (a.tmps.getD (st i) undef) w') : FlowStep2 P Q G st M B Rel a0 ops i o := by
  intro a w hF hi
  obtain ⟨w', hr, hB, hR, hG⟩ := h a w hF
  unfold wpOp
  simp only [hi, wanted_none hg, if_true]
  refine Or.inl ?_
  unfold Oper.wp
  rw [hr]
  exact ⟨undef, rfl, hB, hR, by rw [hd]; exact hG⟩
/-- a call -/
theorem flow2_call {i : Nat} {o : Oper} {d : Nat} (hd : o.dst = some d) (hg : o.guard = none)
    (h : ∀ a w, FlowAt2 G st M B a0 ops o a w → ∃ f args, (execOp a.eval o).run P w = .ok (.enter f args) w ∧ Calls P f args w fun e w' => ∃ v, e = .returned v ∧ B w' ∧ Rel w w' ∧ G d v w') : FlowStep2 P Q G st M B Rel a0 ops i o := by
  intro a w hF hi
  obtain ⟨f, args, hr, hc⟩ := h a w hF
  unfold wpOp
  simp only [hi, wanted_none hg, if_true]
  refine Or.inl ?_
  unfold Oper.wp
  rw [hr]
  refine Calls.mono hc fun e w' he => ?_
  obtain ⟨v, rfl, hB, hR, hG⟩ := he
  exact ⟨v, rfl, hB, hR, by rw [hd]; exact hG⟩
end
end Go.Proofs.YtmnlidfalhjghaaGreatDoor

/- A region that draws its order, as in XFlow2; what a store has done may be told of the address that stands in a slot (the slot st j of operation j). No program is named here. -/
namespace Go.Proofs.YtmnlidfalhjghaaGreatDoor
open Go
section
variable {P : Program} {ops : Array Oper} {Q : Exit → Act → World → Prop} {G : Nat → Value → World → Prop} {st : Nat → Nat} {M : Nat → Value → World → Prop} {B : World → Prop} {ps : List Nat} {a0 : Act}

/-- the pointers in the slots ps go to blocks that are there, all apart -/
def PtrsApart (ps : List Nat) (a : Act) (w : World) : Prop :=
  ∀ s ∈ ps, ∀ C, a.tmps.getD s undef = .pointer (some ⟨C, 0, none⟩) → C < w.heap.size ∧ ∀ t ∈ ps, t ≠ s → a.tmps.getD t undef ≠ .pointer (some ⟨C, 0, none⟩)
theorem ptrs_grown {ps : List Nat} {a : Act} {w w' : World} (h : PtrsApart ps a w) (hs : w.heap.size ≤ w'.heap.size) : PtrsApart ps a w' :=
  fun s hm C e => ⟨Nat.lt_of_lt_of_le (h s hm C e).1 hs, (h s hm C e).2⟩
theorem put_getD {a : Act} {dst : Option Tmp} {v : Value} {s : Nat} (h : dst ≠ some s) : (a.put dst v).tmps.getD s undef = a.tmps.getD s undef := by
  cases dst with
  | none => rfl
  | some d => simp [Act.put, Array.getElem?_setIfInBounds_ne (show d ≠ s from fun e => h (by rw [e]))]
theorem ptrs_put {ps : List Nat} {a : Act} {w w' : World} {dst : Option Tmp} {v : Value} (h : PtrsApart ps a w) (hs : w.heap.size ≤ w'.heap.size) (hd : ∀ s ∈ ps, dst ≠ some s) : PtrsApart ps (a.put dst v) w' := by
  intro s hm C e
  rw [put_getD (hd s hm)] at e
  refine ⟨Nat.lt_of_lt_of_le (h s hm C e).1 hs, fun t ht hts => ?_⟩
  rw [put_getD (hd t ht)]
  exact (h s hm C e).2 t ht hts
theorem ptrs_new {ps : List Nat} {a : Act} {w w' : World} {d : Nat} (h : PtrsApart ps a w) (hs : w.heap.size < w'.heap.size) (hd : d < a.tmps.size) : PtrsApart ps (a.put (some d) (.pointer (some ⟨w.heap.size, 0, none⟩))) w' := by
  have hsame : ∀ v, (a.put (some d) v).tmps.getD d undef = v := fun v => by simp [Act.put, hd]
  intro s hm C e
  by_cases e1 : d = s
  · subst e1
    rw [hsame] at e
    cases e
    refine ⟨hs, fun t ht hts e2 => ?_⟩
    rw [put_getD (by intro e3; exact hts (Option.some.inj e3).symm)] at e2
    have := (h t ht _ e2).1
    omega
  · rw [put_getD (by intro e3; exact e1 (Option.some.inj e3))] at e
    refine ⟨by have := (h s hm C e).1; omega, fun t ht hts => ?_⟩
    by_cases e2 : d = t
    · subst e2
      rw [hsame]
      intro e3
      cases e3
      have := (h s hm _ e).1
      omega
    · rw [put_getD (by intro e3; exact e2 (Option.some.inj e3))]
      exact (h s hm C e).2 t ht hts
structure Flow3 (G : Nat → Value → World → Prop) (st : Nat → Nat) (M : Nat → Value → World → Prop) (B : World → Prop) (ps : List Nat) (a0 : Act) (ops : Array Oper) (listed : Array Bool) (a : Act) (w : World) : Prop where
  base : B w
  size : a.tmps.size = a0.tmps.size
  defers : a.defers = a0.defers
  rest : ∀ d, notDst ops d = true → a.tmps.getD d undef = a0.tmps.getD d undef
  slots : ∀ j oj d, ops[j]? = some oj → listed.getD j false = true → oj.dst = some d → G d (a.tmps.getD d undef) w
  mems : ∀ j oj, ops[j]? = some oj → listed.getD j false = true → oj.dst = none → M j (a.tmps.getD (st j) undef) w
  ptrs : PtrsApart ps a w
  closed : ∀ j oj, ops[j]? = some oj → listed.getD j false = true → ∀ e ∈ oj.after, Region.binds .any e = true → listed.getD e.on false = true
structure FlowAt3 (G : Nat → Value → World → Prop) (st : Nat → Nat) (M : Nat → Value → World → Prop) (B : World → Prop) (ps : List Nat) (a0 : Act) (ops : Array Oper) (o : Oper) (a : Act) (w : World) : Prop where
  base : B w
  size : a.tmps.size = a0.tmps.size
  ptrs : PtrsApart ps a w
  rest : ∀ d, notDst ops d = true → a.tmps.getD d undef = a0.tmps.getD d undef
  dep : ∀ d, waits ops o d = true → G d (a.tmps.getD d undef) w
  mem : ∀ j oj, ops[j]? = some oj → waitsFor o j = true → oj.dst = none → M j (a.tmps.getD (st j) undef) w
def FlowPost3 (G : Nat → Value → World → Prop) (st : Nat → Nat) (M : Nat → Value → World → Prop) (B : World → Prop) (ps : List Nat) (ops : Array Oper) (i : Nat) (o : Oper) (a : Act) (w : World) (v : Value) (w' : World) : Prop :=
  B w' ∧ (∀ d u, G d u w → G d u w') ∧ (∀ j oj, j ≠ i → ops[j]? = some oj → oj.dst = none → M j (a.tmps.getD (st j) undef) w → M j (a.tmps.getD (st j) undef) w') ∧ PtrsApart ps (a.put o.dst v) w' ∧
    match o.dst with | some d => G d v w' | none => M i (a.tmps.getD (st i) undef) w'
def FlowStep3 (P : Program) (Q : Exit → Act → World → Prop) (G : Nat → Value → World → Prop) (st : Nat → Nat) (M : Nat → Value → World → Prop) (B : World → Prop) (ps : List Nat) (a0 : Act) (ops : Array Oper) (i : Nat) (o : Oper) : Prop :=
  ∀ a w, FlowAt3 G st M B ps a0 ops o a w → ops[i]? = some o → wpOp P ops Q i (fun a' w' => ∃ v, a' = a.put o.dst v ∧ FlowPost3 G st M B ps ops i o a w v w') a w
def FlowSteps3 (P : Program) (Q : Exit → Act → World → Prop) (G : Nat → Value → World → Prop) (st : Nat → Nat) (M : Nat → Value → World → Prop) (B : World → Prop) (ps : List Nat) (a0 : Act) (ops : Array Oper) : Nat → List Oper → Prop
  | _, [] => True
  | i, o :: r => FlowStep3 P Q G st M B ps a0 ops i o ∧ FlowSteps3 P Q G st M B ps a0 ops (i + 1) r
theorem flowSteps3_get : ∀ (l : List Oper) (i k : Nat) (o : Oper), FlowSteps3 P Q G st M B ps a0 ops i l → l[k]? = some o → FlowStep3 P Q G st M B ps a0 ops (i + k) o := by
  intro l
  induction l with
  | nil => intro i k o h hk; simp at hk
  | cons x r ih =>
    intro i k o h hk
    cases k with
    | zero => simp at hk; subst hk; exact h.1
    | succ k => have := ih (i + 1) k o h.2 (by simpa using hk); rwa [show i + (k + 1) = i + 1 + k by omega]
theorem flow3_any (ht : topo ops = true) (ho : once ops a0.tmps.size = true) (hstk : stOk ops st = true)
    (steps : FlowSteps3 P Q G st M B ps a0 ops 0 ops.toList)
    (fin : ∀ a w, B w → a.tmps.size = a0.tmps.size → a.defers = a0.defers → (∀ d, notDst ops d = true → a.tmps.getD d undef = a0.tmps.getD d undef) → (∀ d, isDst ops d = true → G d (a.tmps.getD d undef) w) →
      (∀ j oj, ops[j]? = some oj → oj.dst = none → M j (a.tmps.getD (st j) undef) w) → Q .normal a w) :
    ∀ (fuel : Nat) (listed : Array Bool) (a : Act) (w : World), listed.size = ops.size → unlisted ops listed ≤ fuel → Flow3 G st M B ps a0 ops listed a w → wpAny P .any ops Q fuel listed a w := by
  have inn : ∀ {j : Nat} {oj : Oper}, ops[j]? = some oj → j < ops.size := by
    intro j oj hj
    rcases Nat.lt_or_ge j ops.size with h' | h'
    · exact h'
    · rw [Array.getElem?_eq_none h'] at hj; cases hj
  have go : ∀ (listed : Array Bool) (a : Act) (w : World), listed.size = ops.size → Flow3 G st M B ps a0 ops listed a w → Region.ready .any ops listed = [] → Q .normal a w := by
    intro listed a w hs hF hr
    have hall := all_listed ht hs hr
    refine fin a w hF.base hF.size hF.defers hF.rest (fun d hd => ?_) (fun j oj hj hn => hF.mems j oj hj (hall j (inn hj)) hn)
    obtain ⟨k, hk, hb⟩ := Array.any_eq_true.1 hd
    exact hF.slots k ops[k] d (Array.getElem?_eq_getElem hk) (hall k hk) (by simpa using hb)
  intro fuel
  induction fuel with
  | zero =>
    intro listed a w hs hu hF
    have hr : Region.ready .any ops listed = [] := by
      cases hc : Region.ready .any ops listed with
      | nil => rfl
      | cons x r =>
        have := unlisted_lt (ops := ops) (listed := listed) (i := x) (by rw [hc]; exact List.mem_cons_self ..)
        omega
    exact ⟨hr, go listed a w hs hF hr⟩
  | succ fuel ih =>
    intro listed a w hs hu hF
    refine ⟨go listed a w hs hF, fun i hi => ?_⟩
    obtain ⟨h0, o, hoi, hall⟩ := mem_ready.1 hi
    have hst := flowSteps3_get ops.toList 0 i o steps (by rw [Array.getElem?_toList]; exact hoi)
    rw [Nat.zero_add] at hst
    have hat : FlowAt3 G st M B ps a0 ops o a w := ⟨hF.base, hF.size, hF.ptrs, hF.rest, fun d hd => by
        obtain ⟨k, hk, hb⟩ := Array.any_eq_true.1 hd
        simp only [Bool.and_eq_true, beq_iff_eq] at hb
        have hl := hall _ (Array.getElem_mem hk) hb.1
        cases hx : ops[o.after[k].on]? with
        | none => rw [hx] at hb; cases hb.2
        | some oj => rw [hx] at hb; exact hF.slots _ oj d hx hl hb.2,
      fun j oj hj ha hn => by
        obtain ⟨k, hk, hb⟩ := Array.any_eq_true.1 ha
        simp only [Bool.and_eq_true, beq_iff_eq] at hb
        have hl := hall _ (Array.getElem_mem hk) hb.1
        rw [hb.2] at hl
        exact hF.mems j oj hj hl hn⟩
    refine wpOp_mono (fun a' w' h => ?_) (hst a w hat hoi)
    obtain ⟨v, rfl, hB, hRG, hRM, hPt, hG⟩ := h
    have hlt := unlisted_lt hi
    refine ih _ _ _ (by simpa using hs) (by omega) ⟨hB, ?_, ?_, ?_, ?_, ?_, hPt, ?_⟩
    · rw [← hF.size]; cases o.dst <;> simp [Act.put]
    · rw [← hF.defers]; cases o.dst <;> simp [Act.put]
    · intro d hd
      rw [← hF.rest d hd]
      have hne : o.dst ≠ some d := by
        have := (Array.all_eq_true_iff_forall_mem.1 hd) o (Array.mem_of_getElem? hoi)
        simpa using this
      cases hod : o.dst with
      | none => rfl
      | some d' => rw [hod] at hne; simp [Act.put, Array.getElem?_setIfInBounds_ne (show d' ≠ d from fun e => hne (by rw [e]))]
    · intro j oj d hj hl hd
      by_cases e : i = j
      · subst e
        rw [hoi] at hj
        cases hj
        have hd2 := once_lt ho hoi hd
        rw [← hF.size] at hd2
        rw [hd] at hG ⊢
        simpa [Act.put, hd2] using hG
      · rw [getD_set_ne false e] at hl
        have h1 := hF.slots j oj d hj hl hd
        have hv : (a.put o.dst v).tmps.getD d undef = a.tmps.getD d undef := by
          cases hod : o.dst with
          | none => rfl
          | some d' =>
            have := once_ne ho hoi hj e hod
            rw [hd] at this
            simp [Act.put, Array.getElem?_setIfInBounds_ne (show d' ≠ d from fun e => this (by rw [e]))]
        rw [hv]
        exact hRG d _ h1
    · intro j oj hj hl hn
      have hv : ∀ jj ojj, ops[jj]? = some ojj → ojj.dst = none → (jj = i ∨ listed.getD jj false = true) → (a.put o.dst v).tmps.getD (st jj) undef = a.tmps.getD (st jj) undef := by
        intro jj ojj hjj hnn hcase
        cases hod : o.dst with
        | none => rfl
        | some d' =>
          have hne : d' ≠ st jj := by
            intro he
            have hs1 := (List.all_eq_true.1 hstk) jj (List.mem_range.2 (inn hjj))
            rw [hjj] at hs1
            simp only [Option.map_some, Option.getD_some, hnn, Option.isSome_none, Bool.false_or, Bool.or_eq_true] at hs1
            rcases hs1 with hs1 | hs1
            · obtain ⟨k, hk, hb⟩ := Array.any_eq_true.1 hs1
              simp only [Bool.and_eq_true, beq_iff_eq] at hb
              rcases hcase with hc | hc
              · subst hc
                rw [hoi] at hjj
                cases hjj
                rw [hod] at hnn
                cases hnn
              · have hl2 := hF.closed jj ojj hjj hc _ (Array.getElem_mem hk) hb.1
                cases hx : ops[ojj.after[k].on]? with
                | none => rw [hx] at hb; cases hb.2
                | some ok =>
                  rw [hx] at hb
                  have hdk : ok.dst = some (st jj) := hb.2
                  by_cases hki : ojj.after[k].on = i
                  · rw [hki] at hl2
                    have hlt2 : i < listed.size := by rw [hs]; exact inn hoi
                    simp [hlt2] at h0 hl2
                    rw [h0] at hl2
                    cases hl2
                  · exact once_ne ho hx hoi hki hdk (by rw [hod, he])
            · have := (Array.all_eq_true_iff_forall_mem.1 hs1) o (Array.mem_of_getElem? hoi)
              rw [hod, he] at this
              simp at this
          simp [Act.put, Array.getElem?_setIfInBounds_ne hne]
      by_cases e : i = j
      · subst e
        rw [hv i oj hj hn (Or.inl rfl)]
        rw [hoi] at hj
        cases hj
        rw [hn] at hG
        exact hG
      · rw [getD_set_ne false e] at hl
        rw [hv j oj hj hn (Or.inr hl)]
        exact hRM j oj (fun e2 => e e2.symm) hj hn (hF.mems j oj hj hl hn)
    · intro j oj hj hl e he hb
      by_cases ei : i = j
      · subst ei
        rw [hoi] at hj
        cases hj
        exact getD_set_true (hall e he hb)
      · rw [getD_set_ne false ei] at hl
        exact getD_set_true (hF.closed j oj hj hl e he hb)
/-- A REGION THAT DRAWS ITS ORDER, by one obligation for each operation. G d v w: what slot d has; M j w: what operation j, that has no slot, has done; B: what holds of memory throughout; Rel: what one operation may do to memory. -/
theorem wp_region_flow3 {id : Nat} {w : World} (G : Nat → Value → World → Prop) (st : Nat → Nat) (M : Nat → Value → World → Prop) (B : World → Prop) (ps : List Nat) (hm : P.follows .mixedOrders = true) (ht : topo ops = true) (ho : once ops a0.tmps.size = true) (hB : B w.drew) (hps : PtrsApart ps a0 w.drew)
    (hstk : stOk ops st = true) (steps : FlowSteps3 P Q G st M B ps a0 ops 0 ops.toList)
    (fin : ∀ a w, B w → a.tmps.size = a0.tmps.size → a.defers = a0.defers → (∀ d, notDst ops d = true → a.tmps.getD d undef = a0.tmps.getD d undef) → (∀ d, isDst ops d = true → G d (a.tmps.getD d undef) w) →
      (∀ j oj, ops[j]? = some oj → oj.dst = none → M j (a.tmps.getD (st j) undef) w) → Q .normal a w) : (Code.region id ops true).wp P Q a0 w :=
  wp_region_any hm (flow3_any ht ho hstk steps fin ops.size _ a0 _ (by simp) (by unfold unlisted; exact Nat.le_trans (List.length_filter_le _ _) (by simp))
    ⟨hB, rfl, rfl, fun _ _ => rfl, fun j oj d _ hl _ => by
      by_cases h : j < ops.size <;> simp [h] at hl, fun j oj _ hl _ => by
      by_cases h : j < ops.size <;> simp [h] at hl, hps, fun j oj _ hl => by
      by_cases h : j < ops.size <;> simp [h] at hl⟩)

/-- the guard of an operation says yes -/
def Wants (ops : Array Oper) (o : Oper) (a : Act) : Prop := Region.wanted o (yielded ops a.tmps) = true
theorem wants_none {o : Oper} {a : Act} (h : o.guard = none) : Wants ops o a := wanted_none h _
theorem wants_some {o : Oper} {a : Act} {j d : Nat} {b : Bool} (h : o.guard = some (j, b)) (hj : (ops[j]?).bind (·.dst) = some d) (hd : d < a.tmps.size) (hv : a.tmps.getD d undef = .bool b) : Wants ops o a := by
  unfold Wants Region.wanted yielded
  rw [h]
  have : a.tmps[d]? = some (.bool b) := by
    rw [Array.getElem?_eq_getElem hd]
    simp [hd] at hv
    rw [hv]
  simp [hj, this]
theorem not_wants {o : Oper} {a : Act} {j d : Nat} {b c : Bool} (h : o.guard = some (j, b)) (hj : (ops[j]?).bind (·.dst) = some d) (hd : d < a.tmps.size) (hv : a.tmps.getD d undef = .bool c) (hbc : c ≠ b) : Region.wanted o (yielded ops a.tmps) = false := by
  unfold Region.wanted yielded
  rw [h]
  have : a.tmps[d]? = some (.bool c) := by
    rw [Array.getElem?_eq_getElem hd]
    simp [hd] at hv
    rw [hv]
  simp [hj, this, hbc]
theorem flow3_skipped {i : Nat} {o : Oper} {d : Nat} (hd : o.dst = some d) (hps : ∀ s ∈ ps, s ≠ d) (hG : ∀ w, B w → G d undef w)
    (h : ∀ a w, FlowAt3 G st M B ps a0 ops o a w → Region.wanted o (yielded ops a.tmps) = false) : FlowStep3 P Q G st M B ps a0 ops i o := by
  intro a w hF hi
  have hw := h a w hF
  unfold wpOp
  simp only [hi, hw]
  exact ⟨undef, rfl, hF.base, fun _ _ h => h, fun _ _ _ _ _ h => h, ptrs_put hF.ptrs (Nat.le_refl _) (fun s hs e => hps s hs (Option.some.inj (hd ▸ e)).symm), by rw [hd]; exact hG w hF.base⟩
/-- an operation that yields a value -/
theorem flow3_value {i : Nat} {o : Oper} {d : Nat} (hd : o.dst = some d) (h : ∀ a w, FlowAt3 G st M B ps a0 ops o a w → Wants ops o a ∧ ∃ v w', (execOp a.eval o).run P w = .ok (.value v) w' ∧ B w' ∧ (∀ d u, G d u w → G d u w') ∧ (∀ j u, M j u w → M j u w') ∧ PtrsApart ps (a.put (some d) v) w' ∧ G d v w') : FlowStep3 P Q G st M B ps a0 ops i o := by
  intro a w hF hi
  obtain ⟨hw, v, w', hr, hB, hRG, hRM, hP, hG⟩ := h a w hF
  unfold Wants at hw
  unfold wpOp
  simp only [hi, hw, if_true]
  refine Or.inl ?_
  unfold Oper.wp
  rw [hr]
  exact ⟨v, rfl, hB, hRG, fun j oj _ _ _ h => hRM j _ h, by rw [hd]; exact hP, by rw [hd]; exact hG⟩
/-- an operation that leaves no value: a store -/
theorem flow3_store {i : Nat} {o : Oper} (hd : o.dst = none) (h : ∀ a w, FlowAt3 G st M B ps a0 ops o a w → Wants ops o a ∧ ∃ w', (execOp a.eval o).run P w = .ok .skip w' ∧ B w' ∧ (∀ d u, G d u w → G d u w') ∧ (∀ j oj, j ≠ i → ops[j]? = some oj → oj.dst = none → M j (a.tmps.getD (st j) undef) w → M j (a.tmps.getD (st j) undef) w') ∧ w.heap.size ≤ w'.heap.size ∧ M i (a.tmps.getD (st i) undef) w') : FlowStep3 P Q G st M B ps a0 ops i o := by
  intro a w hF hi
  obtain ⟨hw, w', hr, hB, hRG, hRM, hs, hG⟩ := h a w hF
  unfold Wants at hw
  unfold wpOp
  simp only [hi, hw, if_true]
  refine Or.inl ?_
  unfold Oper.wp
  rw [hr]
  exact ⟨undef, rfl, hB, hRG, hRM, by rw [hd]; exact ptrs_grown hF.ptrs hs, by rw [hd]; exact hG⟩
/-- a call -/
theorem flow3_call {i : Nat} {o : Oper} {d : Nat} (hd : o.dst = some d)
    (h : ∀ a w, FlowAt3 G st M B ps a0 ops o a w → Wants ops o a ∧ ∃ f args, (execOp a.eval o).run P w = .ok (.enter f args) w ∧ Calls P f args w fun e w' => ∃ v, e = .returned v ∧ B w' ∧ (∀ d u, G d u w → G d u w') ∧ (∀ j u, M j u w → M j u w') ∧ PtrsApart ps (a.put (some d) v) w' ∧ G d v w') : FlowStep3 P Q G st M B ps a0 ops i o := by
  intro a w hF hi
  obtain ⟨hw, f, args, hr, hc⟩ := h a w hF
  unfold Wants at hw
  unfold wpOp
  simp only [hi, hw, if_true]
  refine Or.inl ?_
  unfold Oper.wp
  rw [hr]
  refine Calls.mono hc fun e w' he => ?_
  obtain ⟨v, rfl, hB, hRG, hRM, hP, hG⟩ := he
  exact ⟨v, rfl, hB, hRG, fun j oj _ _ _ h => hRM j _ h, by rw [hd]; exact hP, by rw [hd]; exact hG⟩
end
end Go.Proofs.YtmnlidfalhjghaaGreatDoor

/- Regions that draw their order, whatever is in their slots: values, slices of bytes, with guards; no stores. -/
namespace Go.Proofs.YtmnlidfalhjghaaGreatDoor
open Go.RowKit Ow
namespace Fg
def AllAt (a : Act) : Nat → List Value → Prop
  | _, [] => True
  | i, v :: r => a.tmps.getD i undef = v ∧ AllAt a (i + 1) r
theorem allAt_get {a : Act} : ∀ (vs : List Value) (i k : Nat) (v : Value), AllAt a i vs → vs[k]? = some v → a.tmps.getD (i + k) undef = v := by
  intro vs
  induction vs with
  | nil => intro i k v _ h; simp at h
  | cons x r ih =>
    intro i k v h hk
    cases k with
    | zero => simp at hk; subst hk; exact h.1
    | succ k => have := ih (i + 1) k v h.2 (by simpa using hk); rwa [show i + (k + 1) = i + 1 + k by omega]
theorem frame_is {a : Act} {vs : List Value} (hs : a.tmps.size = vs.length) (h : AllAt a 0 vs) (hd : a.defers = []) : a = { tmps := vs.toArray, defers := [] } := by
  have ht : a.tmps = vs.toArray := by
    apply Array.ext_getElem?
    intro i
    by_cases hi : i < a.tmps.size
    · have h2 : i < vs.length := by omega
      have := allAt_get vs 0 i vs[i] h (List.getElem?_eq_getElem h2)
      rw [Nat.zero_add] at this
      simp [hi] at this
      rw [Array.getElem?_eq_getElem hi, this]
      simp [h2]
    · rw [Array.getElem?_eq_none (by omega), Array.getElem?_eq_none (by simp; omega)]
  cases a
  simp at ht hd
  rw [ht, hd]

/-- what a slot has, and keeps -/
structure It where
  p : Value → World → Prop
  m : ∀ v w w', p v w → w.grownBy w' none → p v w'
def It.any : It := ⟨fun _ _ => True, fun _ _ _ _ _ => trivial⟩
def It.val (x : Value) : It := ⟨fun v _ => v = x, fun _ _ _ h _ => h⟩
/-- a slice of n bytes -/
def It.byt (n : Nat) (l : List Nat) : It := ⟨fun v w => ∃ a cap B, v = .slice a n cap ∧ BytesAt w B a cap l, fun _ _ _ ⟨a, cap, B, e, h⟩ hg => ⟨a, cap, B, e, h.stay hg⟩⟩
def its (L : List It) (d : Nat) (v : Value) (w : World) : Prop := (L.getD d .any).p v w
theorem its_grown {L : List It} {w w' : World} (hg : w.grownBy w' none) (d : Nat) (v : Value) (h : its L d v w) : its L d v w' := (L.getD d .any).m _ _ _ h hg
section
variable {P : Program} {ops : Array Oper} {Q : Exit → Act → World → Prop} {L : List It} {w0 : World} {a0 : Act}
abbrev At (L : List It) (w0 : World) (a0 : Act) (ops : Array Oper) (o : Oper) (a : Act) (w : World) : Prop := FlowAt3 (its L) (fun _ => 0) (fun _ _ _ => True) (fun w => w0.grownBy w none) [] a0 ops o a w
abbrev Step (P : Program) (Q : Exit → Act → World → Prop) (L : List It) (w0 : World) (a0 : Act) (ops : Array Oper) (i : Nat) (o : Oper) : Prop := FlowStep3 P Q (its L) (fun _ => 0) (fun _ _ _ => True) (fun w => w0.grownBy w none) [] a0 ops i o
theorem ptrs_nil (a : Act) (w : World) : PtrsApart [] a w := by unfold PtrsApart; simp
theorem value {i : Nat} {o : Oper} {d : Nat} (hd : o.dst = some d)
    (h : ∀ a w, At L w0 a0 ops o a w → Wants ops o a ∧ ∃ v w', (execOp a.eval o).run P w = .ok (.value v) w' ∧ w.grownBy w' none ∧ its L d v w') : Step P Q L w0 a0 ops i o :=
  flow3_value hd fun a w hF => by
    obtain ⟨hw, v, w', hr, hg, hG⟩ := h a w hF
    exact ⟨hw, v, w', hr, gb_trans hF.base hg, fun d u => its_grown hg d u, fun _ _ h => h, ptrs_nil _ _, hG⟩
theorem call {i : Nat} {o : Oper} {d : Nat} (hd : o.dst = some d)
    (h : ∀ a w, At L w0 a0 ops o a w → Wants ops o a ∧ ∃ f args, (execOp a.eval o).run P w = .ok (.enter f args) w ∧ Calls P f args w fun e w' => ∃ v, e = .returned v ∧ w.grownBy w' none ∧ its L d v w') : Step P Q L w0 a0 ops i o :=
  flow3_call hd fun a w hF => by
    obtain ⟨hw, f, args, hr, hc⟩ := h a w hF
    refine ⟨hw, f, args, hr, hc.mono fun e w' he => ?_⟩
    obtain ⟨v, rfl, hg, hG⟩ := he
    exact ⟨v, rfl, gb_trans hF.base hg, fun d u => its_grown hg d u, fun _ _ h => h, ptrs_nil _ _, hG⟩
theorem skipped {i : Nat} {o : Oper} {d : Nat} (hd : o.dst = some d) (hG : ∀ w, its L d undef w)
    (h : ∀ a w, At L w0 a0 ops o a w → Region.wanted o (yielded ops a.tmps) = false) : Step P Q L w0 a0 ops i o :=
  flow3_skipped hd (fun s hs => by cases hs) (fun w _ => hG w) h
theorem no_store {ops : Array Oper} (h : (ops.toList.all fun o => o.dst.isSome) = true) : stOk ops (fun _ => 0) = true := by
  unfold stOk
  rw [List.all_eq_true]
  intro j hj
  have hj2 := List.mem_range.1 hj
  rw [Array.getElem?_eq_getElem hj2]
  have := List.all_eq_true.1 h ops[j] (by simp)
  simp [this]
end
theorem not_wants_undef {ops : Array Oper} {o : Oper} {a : Act} {j d : Nat} {b : Bool} (h : o.guard = some (j, b)) (hj : (ops[j]?).bind (·.dst) = some d) (hd : d < a.tmps.size) (hv : a.tmps.getD d undef = undef) : Region.wanted o (yielded ops a.tmps) = false := by
  unfold Region.wanted yielded
  rw [h]
  have : a.tmps[d]? = some undef := by
    rw [Array.getElem?_eq_getElem hd]
    simp [hd] at hv
    rw [hv]
  simp [hj, this, undef]
end Fg
end Go.Proofs.YtmnlidfalhjghaaGreatDoor

/- The kit's KeptBytes: lent bytes, and the marks behind them, are as they were. -/
namespace Go.Proofs.YtmnlidfalhjghaaGreatDoor
open Go.RowKit Ow

set_option maxRecDepth 100000 in
set_option maxHeartbeats 4000000 in
theorem keptB_any {f : Nat → Nat → Nat} (hf : Marks f) (n cap B g : Nat) (p : List Nat) (a : Option Addr) (w : World) (hn : p.length = n) (hP : BytesAt w B a cap p) (hlen : n ≤ 30000) (hG : Blk w g 5 ((p ++ marksOf f 1 12).map u8N)) :
    Calls Tryz.prog 16 #[.slice (some ⟨g, 0, none⟩) n (n + 12), .slice a n cap] w fun e w' => e = .returned (.bool true) ∧ w.grownBy w' none := by
  have hnc := hP.fits
  rw [hn] at hnc
  have hcap := hP.top
  have HF := Lib.hid hf; clear hf
  have hgb : BytesAt w w.heap.size (some ⟨g, 0, none⟩) (n + 12) (p ++ marksOf f 1 12) := by
    refine blk_bytes (n := n + 12) (tl := []) (by rw [List.append_nil]; exact hG) (by rw [List.length_append, marksOf_length, hn]) (Nat.le_refl _) (by omega) (fun i => ?_) hG.lt (Nat.le_refl _)
    rw [List.getD_eq_getElem?_getD]
    rcases Nat.lt_or_ge i p.length with h | h
    · rw [List.getElem?_append_left h, ← List.getD_eq_getElem?_getD]; exact hP.byte i
    · rw [List.getElem?_append_right h, ← List.getD_eq_getElem?_getD]; exact marksOf_lt HF.out _ _ _
  have HP := Lib.hid (And.intro hn (And.intro hP (And.intro hG hgb))); clear hn hP hG hgb
  go_enter Tryz.func16, Tryz.ntmps16
  go_wp2
  go_loopw [6] (fun i wr => ∃ k : Nat, k ≤ n + 12 ∧ i = .int .i64 k ∧ w.grownBy wr none) (fun i _ => n + 12 - (intOf i).toNat)
  case atStart => exact ⟨0, by omega, rfl, gb_refl _ _⟩
  case round =>
    obtain ⟨k, hk, rfl, hg⟩ := hrel
    by_cases hlt : k < n + 12
    · by_cases hkn : k < n
      · obtain ⟨pb, po, rfl, hpb, hc⟩ := HP.out.2.1.cells.resolve_left (by have := HP.out.1; omega)
        have kc : wr.cell? ⟨pb, po + k, none⟩ = some (u8N (p.getD k 0)) := by rw [gb_cell hg (p := ⟨pb, po + k, none⟩) (Nat.lt_of_lt_of_le hpb HP.out.2.1.lim) (by simp)]; exact hc k (by have := HP.out.1; omega)
        have kg : wr.cell? ⟨g, k, none⟩ = some (u8N (p.getD k 0)) := by
          apply (HP.out.2.2.1.grown hg (by simp)).cell
          rw [List.map_append, List.getElem?_append_left (by rw [List.length_map]; have := HP.out.1; omega)]
          exact u8_getD (by have := HP.out.1; omega)
        unfold u8N at kg kc
        clear hc
        generalize p.getD k 0 = x at *
        have HG := Lib.hid hg; clear hg
        have i0 : (k : Int) < (n : Int) := by omega
        have i1 : (k : Int) < (n : Int) + 12 := by omega
        have i2 : decide (n ≤ k) = false := by simp; omega
        go_wp2_with fail
        go_quiet (fail)
        go_wp2
        go_roundw
        case rel => exact ⟨k + 1, by omega, by go_num, gb_drewN HG.out _⟩
        case measure => simp [intOf]; omega
      · obtain ⟨t, ht⟩ : ∃ t, k = n + t := ⟨k - n, by omega⟩
        have t12 : t < 12 := by omega
        obtain ⟨y, hy⟩ : ∃ y, y = f 1 t := ⟨_, rfl⟩
        have hck : ((p ++ marksOf f 1 12).map u8N)[k]? = some (.int .u8 (y : Int)) := by
          rw [List.map_append, List.getElem?_append_right (by rw [List.length_map]; have := HP.out.1; omega), List.length_map, HP.out.1, show k - n = t by omega]
          have h := u8_getD (l := marksOf f 1 12) (i := t) (by rw [marksOf_length]; exact t12)
          rw [marksOf_get f 1 12 t t12, ← hy] at h
          exact h
        have hmb := fun W => (HF.out.run 1 t 1 t W rfl rfl (by decide) (by omega)).mono (fun e w' h => (And.intro h.1 (by rw [h.2]; exact gb_refl _ _) : _ ∧ W.grownBy w' none))
        rw [← hy] at hmb
        have HMB := Lib.hid hmb; clear hmb
        have HCK := Lib.hid hck; clear hck
        have HPB := Lib.hid (HP.out.2.1.stay hg)
        have HGB := Lib.hid (HP.out.2.2.2.stay hg)
        have HGW := Lib.hid (HP.out.2.2.1.grown hg (by simp))
        have HG := Lib.hid hg; clear hg
        have e1 : IntKind.i64.wrap ((k : Int) - (n : Int)) = (t : Int) := by rw [IntKind.wrap_i64]; omega
        have e2 : (k : Int) - (n : Int) = (t : Int) := by omega
        have e3 : IntKind.i64.wrap (t : Int) = (t : Int) := by rw [IntKind.wrap_i64]; omega
        have HTY := Lib.hid (And.intro ht hy); clear ht hy
        have i0 : ¬ (k : Int) < (n : Int) := by omega
        have i3 : (n : Int) ≤ (k : Int) := by omega
        have i1 : (k : Int) < (n : Int) + 12 := by omega
        go_wp2_with fail
        refine wp_region_flow3 (Fg.its [.any, .any, .any, .any, .any, .any, .any, .any, .any, .any, .any, .any, .any, .any, .any, .any, .any, .any, .any, .any, .any, .any, .any, .val (.int .i64 (k : Int)), .val (.slice a n cap), .val (.int .i64 n), .val (.bool false), .val (.bool false), .val undef, .val undef, .val undef, .val undef, .val undef, .val undef, .val undef, .val undef, .val undef, .val undef, .val (.bool false), .val (.bool false), .val (.int .i64 (k : Int)), .val (.slice a n cap), .val (.int .i64 n), .val (.bool true), .val (.bool true), .val (.slice (some ⟨g, 0, none⟩) (n + 12) (n + 12)), .val (.int .i64 (k : Int)), .val (.pointer (some ⟨g, k, none⟩)), .val (.int .u8 (y : Int)), .val (.int .i64 (k : Int)), .val (.slice a n cap), .val (.int .i64 n), .val (.int .i64 (t : Int)), .val (.int .u8 (y : Int)), .val (.bool true), .val (.bool false), .val (.bool false), .val (.bool false)]) (fun _ => 0) (fun _ _ _ => True) (fun w => World.grownBy wr w none) [] (by kernel_rfl) (by kernel_rfl) (by kernel_rfl) (gb_drew (gb_refl _ _)) (Fg.ptrs_nil _ _) (Fg.no_store (by kernel_rfl)) ?_ ?_
        · refine ⟨Fg.value rfl fun ac w h => ?_, ?_⟩
          · have e6 : ac.tmps.getD 6 undef = .int .i64 (k : Int) := h.rest 6 (by kernel_rfl)
            refine ⟨wants_none rfl, .int .i64 (k : Int), w, ?_, gb_refl _ _, rfl⟩
            clear h
            simp only [execOp, Act.eval, e6]
            go_simp
          refine ⟨Fg.value rfl fun ac w h => ?_, ?_⟩
          · have e1 : ac.tmps.getD 1 undef = .slice a n cap := h.rest 1 (by kernel_rfl)
            have b1 := (HPB.out).stay h.base
            exact ⟨wants_none rfl, _, w, by simp only [execOp, Act.eval, e1]; rfl, gb_refl _ _, rfl⟩
          refine ⟨Fg.value rfl fun ac w h => ?_, ?_⟩
          · have e24 : ac.tmps.getD 24 undef = .slice a n cap := h.dep 24 (by kernel_rfl)
            have b24 := (HPB.out).stay h.base
            have x24 : ac.tmps[24]?.getD undef = .slice a n cap := by simpa using e24
            refine ⟨wants_none rfl, .int .i64 n, w, ?_, gb_refl _ _, rfl⟩
            clear h e24
            go_simp
          refine ⟨Fg.value rfl fun ac w h => ?_, ?_⟩
          · have e23 : ac.tmps.getD 23 undef = .int .i64 (k : Int) := h.dep 23 (by kernel_rfl)
            have e25 : ac.tmps.getD 25 undef = .int .i64 n := h.dep 25 (by kernel_rfl)
            refine ⟨wants_none rfl, .bool false, w, ?_, gb_refl _ _, rfl⟩
            clear h
            simp only [execOp, Act.eval, e23, e25]
            go_simp
          refine ⟨Fg.value rfl fun ac w h => ?_, ?_⟩
          · have e26 : ac.tmps.getD 26 undef = .bool false := h.dep 26 (by kernel_rfl)
            refine ⟨wants_none rfl, .bool false, w, ?_, gb_refl _ _, rfl⟩
            clear h
            simp only [execOp, Act.eval, e26]
            go_simp
          refine ⟨Fg.skipped rfl (fun _ => rfl) fun ac w h => ?_, ?_⟩
          · have e27 : ac.tmps.getD 27 undef = .bool false := h.dep 27 (by kernel_rfl)
            exact not_wants (d := 27) rfl rfl (by rw [h.size]; show 27 < 58; decide) e27 (by decide)
          refine ⟨Fg.skipped rfl (fun _ => rfl) fun ac w h => ?_, ?_⟩
          · have e27 : ac.tmps.getD 27 undef = .bool false := h.dep 27 (by kernel_rfl)
            exact not_wants (d := 27) rfl rfl (by rw [h.size]; show 27 < 58; decide) e27 (by decide)
          refine ⟨Fg.skipped rfl (fun _ => rfl) fun ac w h => ?_, ?_⟩
          · have e27 : ac.tmps.getD 27 undef = .bool false := h.dep 27 (by kernel_rfl)
            exact not_wants (d := 27) rfl rfl (by rw [h.size]; show 27 < 58; decide) e27 (by decide)
          refine ⟨Fg.skipped rfl (fun _ => rfl) fun ac w h => ?_, ?_⟩
          · have e27 : ac.tmps.getD 27 undef = .bool false := h.dep 27 (by kernel_rfl)
            exact not_wants (d := 27) rfl rfl (by rw [h.size]; show 27 < 58; decide) e27 (by decide)
          refine ⟨Fg.skipped rfl (fun _ => rfl) fun ac w h => ?_, ?_⟩
          · have e27 : ac.tmps.getD 27 undef = .bool false := h.dep 27 (by kernel_rfl)
            exact not_wants (d := 27) rfl rfl (by rw [h.size]; show 27 < 58; decide) e27 (by decide)
          refine ⟨Fg.skipped rfl (fun _ => rfl) fun ac w h => ?_, ?_⟩
          · have e27 : ac.tmps.getD 27 undef = .bool false := h.dep 27 (by kernel_rfl)
            exact not_wants (d := 27) rfl rfl (by rw [h.size]; show 27 < 58; decide) e27 (by decide)
          refine ⟨Fg.skipped rfl (fun _ => rfl) fun ac w h => ?_, ?_⟩
          · have e27 : ac.tmps.getD 27 undef = .bool false := h.dep 27 (by kernel_rfl)
            exact not_wants (d := 27) rfl rfl (by rw [h.size]; show 27 < 58; decide) e27 (by decide)
          refine ⟨Fg.skipped rfl (fun _ => rfl) fun ac w h => ?_, ?_⟩
          · have e27 : ac.tmps.getD 27 undef = .bool false := h.dep 27 (by kernel_rfl)
            exact not_wants (d := 27) rfl rfl (by rw [h.size]; show 27 < 58; decide) e27 (by decide)
          refine ⟨Fg.skipped rfl (fun _ => rfl) fun ac w h => ?_, ?_⟩
          · have e27 : ac.tmps.getD 27 undef = .bool false := h.dep 27 (by kernel_rfl)
            exact not_wants (d := 27) rfl rfl (by rw [h.size]; show 27 < 58; decide) e27 (by decide)
          refine ⟨Fg.skipped rfl (fun _ => rfl) fun ac w h => ?_, ?_⟩
          · have e27 : ac.tmps.getD 27 undef = .bool false := h.dep 27 (by kernel_rfl)
            exact not_wants (d := 27) rfl rfl (by rw [h.size]; show 27 < 58; decide) e27 (by decide)
          refine ⟨Fg.value rfl fun ac w h => ?_, ?_⟩
          · have e27 : ac.tmps.getD 27 undef = .bool false := h.dep 27 (by kernel_rfl)
            refine ⟨wants_none rfl, .bool false, w, ?_, gb_refl _ _, rfl⟩
            clear h
            simp only [execOp, Act.eval, e27]
            go_simp
          refine ⟨Fg.value rfl fun ac w h => ?_, ?_⟩
          · have e38 : ac.tmps.getD 38 undef = .bool false := h.dep 38 (by kernel_rfl)
            refine ⟨wants_none rfl, .bool false, w, ?_, gb_refl _ _, rfl⟩
            clear h
            simp only [execOp, Act.eval, e38]
            go_simp
          refine ⟨Fg.value rfl fun ac w h => ?_, ?_⟩
          · have e39 : ac.tmps.getD 39 undef = .bool false := h.dep 39 (by kernel_rfl)
            have e6 : ac.tmps.getD 6 undef = .int .i64 (k : Int) := h.rest 6 (by kernel_rfl)
            refine ⟨wants_some (d := 39) rfl rfl (by rw [h.size]; show 39 < 58; decide) e39, .int .i64 (k : Int), w, ?_, gb_refl _ _, rfl⟩
            clear h
            simp only [execOp, Act.eval, e6]
            go_simp
          refine ⟨Fg.value rfl fun ac w h => ?_, ?_⟩
          · have e39 : ac.tmps.getD 39 undef = .bool false := h.dep 39 (by kernel_rfl)
            have e1 : ac.tmps.getD 1 undef = .slice a n cap := h.rest 1 (by kernel_rfl)
            have b1 := (HPB.out).stay h.base
            exact ⟨wants_some (d := 39) rfl rfl (by rw [h.size]; show 39 < 58; decide) e39, _, w, by simp only [execOp, Act.eval, e1]; rfl, gb_refl _ _, rfl⟩
          refine ⟨Fg.value rfl fun ac w h => ?_, ?_⟩
          · have e39 : ac.tmps.getD 39 undef = .bool false := h.dep 39 (by kernel_rfl)
            have e41 : ac.tmps.getD 41 undef = .slice a n cap := h.dep 41 (by kernel_rfl)
            have b41 := (HPB.out).stay h.base
            have x41 : ac.tmps[41]?.getD undef = .slice a n cap := by simpa using e41
            refine ⟨wants_some (d := 39) rfl rfl (by rw [h.size]; show 39 < 58; decide) e39, .int .i64 n, w, ?_, gb_refl _ _, rfl⟩
            clear h e41
            go_simp
          refine ⟨Fg.value rfl fun ac w h => ?_, ?_⟩
          · have e39 : ac.tmps.getD 39 undef = .bool false := h.dep 39 (by kernel_rfl)
            have e40 : ac.tmps.getD 40 undef = .int .i64 (k : Int) := h.dep 40 (by kernel_rfl)
            have e42 : ac.tmps.getD 42 undef = .int .i64 n := h.dep 42 (by kernel_rfl)
            refine ⟨wants_some (d := 39) rfl rfl (by rw [h.size]; show 39 < 58; decide) e39, .bool true, w, ?_, gb_refl _ _, rfl⟩
            clear h
            simp only [execOp, Act.eval, e40, e42]
            go_simp
          refine ⟨Fg.value rfl fun ac w h => ?_, ?_⟩
          · have e39 : ac.tmps.getD 39 undef = .bool false := h.dep 39 (by kernel_rfl)
            have e43 : ac.tmps.getD 43 undef = .bool true := h.dep 43 (by kernel_rfl)
            refine ⟨wants_some (d := 39) rfl rfl (by rw [h.size]; show 39 < 58; decide) e39, .bool true, w, ?_, gb_refl _ _, rfl⟩
            clear h
            simp only [execOp, Act.eval, e43]
            go_simp
          refine ⟨Fg.value rfl fun ac w h => ?_, ?_⟩
          · have e44 : ac.tmps.getD 44 undef = .bool true := h.dep 44 (by kernel_rfl)
            have e5 : ac.tmps.getD 5 undef = .slice (some ⟨g, 0, none⟩) (n + 12) (n + 12) := h.rest 5 (by kernel_rfl)
            have b5 := (HGB.out).stay h.base
            exact ⟨wants_some (d := 44) rfl rfl (by rw [h.size]; show 44 < 58; decide) e44, _, w, by simp only [execOp, Act.eval, e5]; rfl, gb_refl _ _, rfl⟩
          refine ⟨Fg.value rfl fun ac w h => ?_, ?_⟩
          · have e44 : ac.tmps.getD 44 undef = .bool true := h.dep 44 (by kernel_rfl)
            have e6 : ac.tmps.getD 6 undef = .int .i64 (k : Int) := h.rest 6 (by kernel_rfl)
            refine ⟨wants_some (d := 44) rfl rfl (by rw [h.size]; show 44 < 58; decide) e44, .int .i64 (k : Int), w, ?_, gb_refl _ _, rfl⟩
            clear h
            simp only [execOp, Act.eval, e6]
            go_simp
          refine ⟨Fg.value rfl fun ac w h => ?_, ?_⟩
          · have e44 : ac.tmps.getD 44 undef = .bool true := h.dep 44 (by kernel_rfl)
            have e45 : ac.tmps.getD 45 undef = .slice (some ⟨g, 0, none⟩) (n + 12) (n + 12) := h.dep 45 (by kernel_rfl)
            have b45 := (HGB.out).stay h.base
            have e46 : ac.tmps.getD 46 undef = .int .i64 (k : Int) := h.dep 46 (by kernel_rfl)
            refine ⟨wants_some (d := 44) rfl rfl (by rw [h.size]; show 44 < 58; decide) e44, .pointer (some ⟨g, k, none⟩), w, ?_, gb_refl _ _, rfl⟩
            clear h
            simp only [execOp, Act.eval, e45, e46]
            go_simp
          refine ⟨Fg.value rfl fun ac w h => ?_, ?_⟩
          · have e44 : ac.tmps.getD 44 undef = .bool true := h.dep 44 (by kernel_rfl)
            have e47 : ac.tmps.getD 47 undef = .pointer (some ⟨g, k, none⟩) := h.dep 47 (by kernel_rfl)
            have c := (HGW.out.grown h.base (by simp)).cell HCK.out
            refine ⟨wants_some (d := 44) rfl rfl (by rw [h.size]; show 44 < 58; decide) e44, .int .u8 (y : Int), w, ?_, gb_refl _ _, rfl⟩
            clear h
            simp only [execOp, Act.eval, e47]
            go_simp
          refine ⟨Fg.value rfl fun ac w h => ?_, ?_⟩
          · have e44 : ac.tmps.getD 44 undef = .bool true := h.dep 44 (by kernel_rfl)
            have e6 : ac.tmps.getD 6 undef = .int .i64 (k : Int) := h.rest 6 (by kernel_rfl)
            refine ⟨wants_some (d := 44) rfl rfl (by rw [h.size]; show 44 < 58; decide) e44, .int .i64 (k : Int), w, ?_, gb_refl _ _, rfl⟩
            clear h
            simp only [execOp, Act.eval, e6]
            go_simp
          refine ⟨Fg.value rfl fun ac w h => ?_, ?_⟩
          · have e44 : ac.tmps.getD 44 undef = .bool true := h.dep 44 (by kernel_rfl)
            have e1 : ac.tmps.getD 1 undef = .slice a n cap := h.rest 1 (by kernel_rfl)
            have b1 := (HPB.out).stay h.base
            exact ⟨wants_some (d := 44) rfl rfl (by rw [h.size]; show 44 < 58; decide) e44, _, w, by simp only [execOp, Act.eval, e1]; rfl, gb_refl _ _, rfl⟩
          refine ⟨Fg.value rfl fun ac w h => ?_, ?_⟩
          · have e44 : ac.tmps.getD 44 undef = .bool true := h.dep 44 (by kernel_rfl)
            have e50 : ac.tmps.getD 50 undef = .slice a n cap := h.dep 50 (by kernel_rfl)
            have b50 := (HPB.out).stay h.base
            have x50 : ac.tmps[50]?.getD undef = .slice a n cap := by simpa using e50
            refine ⟨wants_some (d := 44) rfl rfl (by rw [h.size]; show 44 < 58; decide) e44, .int .i64 n, w, ?_, gb_refl _ _, rfl⟩
            clear h e50
            go_simp
          refine ⟨Fg.value rfl fun ac w h => ?_, ?_⟩
          · have e44 : ac.tmps.getD 44 undef = .bool true := h.dep 44 (by kernel_rfl)
            have e49 : ac.tmps.getD 49 undef = .int .i64 (k : Int) := h.dep 49 (by kernel_rfl)
            have e51 : ac.tmps.getD 51 undef = .int .i64 n := h.dep 51 (by kernel_rfl)
            refine ⟨wants_some (d := 44) rfl rfl (by rw [h.size]; show 44 < 58; decide) e44, .int .i64 (t : Int), w, ?_, gb_refl _ _, rfl⟩
            clear h
            simp only [execOp, Act.eval, e49, e51]
            go_simp
          refine ⟨Fg.call rfl fun ac w h => ?_, ?_⟩
          · have e44 : ac.tmps.getD 44 undef = .bool true := h.dep 44 (by kernel_rfl)
            have e52 : ac.tmps.getD 52 undef = .int .i64 (t : Int) := h.dep 52 (by kernel_rfl)
            have x52 : ac.tmps[52]?.getD undef = .int .i64 (t : Int) := by simpa using e52
            have hb := h.base
            refine ⟨wants_some (d := 44) rfl rfl (by rw [h.size]; show 44 < 58; decide) e44, 23, #[.int .i64 1, .int .i64 (t : Int)], ?_, ?_⟩
            · clear h hb e52
              go_simp
            · refine (HMB.out w).mono ?_
              intro e w1 hp
              obtain ⟨rfl, hg⟩ := hp
              exact ⟨_, rfl, hg, rfl⟩
          refine ⟨Fg.value rfl fun ac w h => ?_, ?_⟩
          · have e44 : ac.tmps.getD 44 undef = .bool true := h.dep 44 (by kernel_rfl)
            have e48 : ac.tmps.getD 48 undef = .int .u8 (y : Int) := h.dep 48 (by kernel_rfl)
            have e53 : ac.tmps.getD 53 undef = .int .u8 (y : Int) := h.dep 53 (by kernel_rfl)
            refine ⟨wants_some (d := 44) rfl rfl (by rw [h.size]; show 44 < 58; decide) e44, .bool true, w, ?_, gb_refl _ _, rfl⟩
            clear h
            simp only [execOp, Act.eval, e48, e53]
            go_simp
          refine ⟨Fg.value rfl fun ac w h => ?_, ?_⟩
          · have e44 : ac.tmps.getD 44 undef = .bool true := h.dep 44 (by kernel_rfl)
            have e54 : ac.tmps.getD 54 undef = .bool true := h.dep 54 (by kernel_rfl)
            refine ⟨wants_some (d := 44) rfl rfl (by rw [h.size]; show 44 < 58; decide) e44, .bool false, w, ?_, gb_refl _ _, rfl⟩
            clear h
            simp only [execOp, Act.eval, e54]
            go_simp
          refine ⟨Fg.value rfl fun ac w h => ?_, ?_⟩
          · have e39 : ac.tmps.getD 39 undef = .bool false := h.dep 39 (by kernel_rfl)
            have e44 : ac.tmps.getD 44 undef = .bool true := h.dep 44 (by kernel_rfl)
            have e55 : ac.tmps.getD 55 undef = .bool false := h.dep 55 (by kernel_rfl)
            refine ⟨wants_some (d := 39) rfl rfl (by rw [h.size]; show 39 < 58; decide) e39, .bool false, w, ?_, gb_refl _ _, rfl⟩
            clear h
            simp only [execOp, Act.eval, e44, e55]
            go_simp
          refine ⟨Fg.value rfl fun ac w h => ?_, ?_⟩
          · have e39 : ac.tmps.getD 39 undef = .bool false := h.dep 39 (by kernel_rfl)
            have e56 : ac.tmps.getD 56 undef = .bool false := h.dep 56 (by kernel_rfl)
            refine ⟨wants_none rfl, .bool false, w, ?_, gb_refl _ _, rfl⟩
            clear h
            simp only [execOp, Act.eval, e39, e56]
            go_simp
          trivial
        · intro q wq hB hsz hdf hrest hslots _
          obtain ⟨u23, hs23⟩ : ∃ u, q.tmps.getD 23 undef = u := ⟨_, rfl⟩
          obtain ⟨u24, hs24⟩ : ∃ u, q.tmps.getD 24 undef = u := ⟨_, rfl⟩
          obtain ⟨u25, hs25⟩ : ∃ u, q.tmps.getD 25 undef = u := ⟨_, rfl⟩
          obtain ⟨u26, hs26⟩ : ∃ u, q.tmps.getD 26 undef = u := ⟨_, rfl⟩
          obtain ⟨u27, hs27⟩ : ∃ u, q.tmps.getD 27 undef = u := ⟨_, rfl⟩
          obtain ⟨u28, hs28⟩ : ∃ u, q.tmps.getD 28 undef = u := ⟨_, rfl⟩
          obtain ⟨u29, hs29⟩ : ∃ u, q.tmps.getD 29 undef = u := ⟨_, rfl⟩
          obtain ⟨u30, hs30⟩ : ∃ u, q.tmps.getD 30 undef = u := ⟨_, rfl⟩
          obtain ⟨u31, hs31⟩ : ∃ u, q.tmps.getD 31 undef = u := ⟨_, rfl⟩
          obtain ⟨u32, hs32⟩ : ∃ u, q.tmps.getD 32 undef = u := ⟨_, rfl⟩
          obtain ⟨u33, hs33⟩ : ∃ u, q.tmps.getD 33 undef = u := ⟨_, rfl⟩
          obtain ⟨u34, hs34⟩ : ∃ u, q.tmps.getD 34 undef = u := ⟨_, rfl⟩
          obtain ⟨u35, hs35⟩ : ∃ u, q.tmps.getD 35 undef = u := ⟨_, rfl⟩
          obtain ⟨u36, hs36⟩ : ∃ u, q.tmps.getD 36 undef = u := ⟨_, rfl⟩
          obtain ⟨u37, hs37⟩ : ∃ u, q.tmps.getD 37 undef = u := ⟨_, rfl⟩
          obtain ⟨u38, hs38⟩ : ∃ u, q.tmps.getD 38 undef = u := ⟨_, rfl⟩
          obtain ⟨u39, hs39⟩ : ∃ u, q.tmps.getD 39 undef = u := ⟨_, rfl⟩
          obtain ⟨u40, hs40⟩ : ∃ u, q.tmps.getD 40 undef = u := ⟨_, rfl⟩
          obtain ⟨u41, hs41⟩ : ∃ u, q.tmps.getD 41 undef = u := ⟨_, rfl⟩
          obtain ⟨u42, hs42⟩ : ∃ u, q.tmps.getD 42 undef = u := ⟨_, rfl⟩
          obtain ⟨u43, hs43⟩ : ∃ u, q.tmps.getD 43 undef = u := ⟨_, rfl⟩
          obtain ⟨u44, hs44⟩ : ∃ u, q.tmps.getD 44 undef = u := ⟨_, rfl⟩
          obtain ⟨u45, hs45⟩ : ∃ u, q.tmps.getD 45 undef = u := ⟨_, rfl⟩
          obtain ⟨u46, hs46⟩ : ∃ u, q.tmps.getD 46 undef = u := ⟨_, rfl⟩
          obtain ⟨u47, hs47⟩ : ∃ u, q.tmps.getD 47 undef = u := ⟨_, rfl⟩
          obtain ⟨u48, hs48⟩ : ∃ u, q.tmps.getD 48 undef = u := ⟨_, rfl⟩
          obtain ⟨u49, hs49⟩ : ∃ u, q.tmps.getD 49 undef = u := ⟨_, rfl⟩
          obtain ⟨u50, hs50⟩ : ∃ u, q.tmps.getD 50 undef = u := ⟨_, rfl⟩
          obtain ⟨u51, hs51⟩ : ∃ u, q.tmps.getD 51 undef = u := ⟨_, rfl⟩
          obtain ⟨u52, hs52⟩ : ∃ u, q.tmps.getD 52 undef = u := ⟨_, rfl⟩
          obtain ⟨u53, hs53⟩ : ∃ u, q.tmps.getD 53 undef = u := ⟨_, rfl⟩
          obtain ⟨u54, hs54⟩ : ∃ u, q.tmps.getD 54 undef = u := ⟨_, rfl⟩
          obtain ⟨u55, hs55⟩ : ∃ u, q.tmps.getD 55 undef = u := ⟨_, rfl⟩
          obtain ⟨u56, hs56⟩ : ∃ u, q.tmps.getD 56 undef = u := ⟨_, rfl⟩
          obtain rfl := Fg.frame_is (a := q) (vs := [Value.slice (some ⟨g, 0, none⟩) n (n + 12), Value.slice a n cap, undef, undef, u4, Value.slice (some ⟨g, 0, none⟩) (n + 12) (n + 12), Value.int .i64 (k : Int), Value.slice (some ⟨g, 0, none⟩) n (n + 12), Value.int .i64 (n : Int), Value.slice a n cap, Value.int .i64 (n : Int), Value.bool false, Value.slice (some ⟨g, 0, none⟩) n (n + 12), Value.slice a n cap, Value.int .i64 (n : Int), Value.int .i64 ((n : Int) + 12), Value.slice (some ⟨g, 0, none⟩) (n + 12) (n + 12), Value.int .i64 (k : Int), Value.slice (some ⟨g, 0, none⟩) (n + 12) (n + 12), Value.int .i64 ((n : Int) + 12), Value.bool true, u21, u22, u23, u24, u25, u26, u27, u28, u29, u30, u31, u32, u33, u34, u35, u36, u37, u38, u39, u40, u41, u42, u43, u44, u45, u46, u47, u48, u49, u50, u51, u52, u53, u54, u55, u56, Value.bool false]) hsz ⟨hrest 0 (by kernel_rfl), hrest 1 (by kernel_rfl), hrest 2 (by kernel_rfl), hrest 3 (by kernel_rfl), hrest 4 (by kernel_rfl), hrest 5 (by kernel_rfl), hrest 6 (by kernel_rfl), hrest 7 (by kernel_rfl), hrest 8 (by kernel_rfl), hrest 9 (by kernel_rfl), hrest 10 (by kernel_rfl), hrest 11 (by kernel_rfl), hrest 12 (by kernel_rfl), hrest 13 (by kernel_rfl), hrest 14 (by kernel_rfl), hrest 15 (by kernel_rfl), hrest 16 (by kernel_rfl), hrest 17 (by kernel_rfl), hrest 18 (by kernel_rfl), hrest 19 (by kernel_rfl), hrest 20 (by kernel_rfl), hrest 21 (by kernel_rfl), hrest 22 (by kernel_rfl), hs23, hs24, hs25, hs26, hs27, hs28, hs29, hs30, hs31, hs32, hs33, hs34, hs35, hs36, hs37, hs38, hs39, hs40, hs41, hs42, hs43, hs44, hs45, hs46, hs47, hs48, hs49, hs50, hs51, hs52, hs53, hs54, hs55, hs56, (show q.tmps.getD 57 undef = Value.bool false from hslots 57 (by kernel_rfl)), trivial⟩ hdf
          have HG2 := Lib.hid (gb_trans HG.out hB)
          clear hB hsz hdf hrest hslots hs23 hs24 hs25 hs26 hs27 hs28 hs29 hs30 hs31 hs32 hs33 hs34 hs35 hs36 hs37 hs38 hs39 hs40 hs41 hs42 hs43 hs44 hs45 hs46 hs47 hs48 hs49 hs50 hs51 hs52 hs53 hs54 hs55 hs56
          go_wp2
          go_roundw
          case rel => exact ⟨k + 1, by omega, by go_num, HG2.out⟩
          case measure => simp [intOf]; omega
    · obtain rfl : k = n + 12 := by omega
      have HG := Lib.hid hg; clear hg
      clear hlt
      go_wp2
      go_ret
      exact ⟨rfl, HG.out⟩
end Go.Proofs.YtmnlidfalhjghaaGreatDoor

/- Rows of one's own, several beside each other: what a call may change (Kb S), appends by cases, cells set. -/
namespace Go.Proofs.YtmnlidfalhjghaaGreatDoor
open Go.RowKit Ow

/-- all but the blocks of S is as it was -/
structure Kb (S : Nat → Prop) (w w' : World) : Prop where
  os : w'.os = w.os
  tape : w'.tape = w.tape
  output : w'.output = w.output
  size : w.heap.size ≤ w'.heap.size
  block : ∀ i, i < w.heap.size → ¬ S i → w'.heap[i]? = w.heap[i]?
theorem kb_refl (S : Nat → Prop) (w : World) : Kb S w w := ⟨rfl, rfl, rfl, Nat.le_refl _, fun _ _ _ => rfl⟩
theorem kb_trans {S : Nat → Prop} {a b c : World} (h : Kb S a b) (k : Kb S b c) : Kb S a c :=
  ⟨k.os.trans h.os, k.tape.trans h.tape, k.output.trans h.output, Nat.le_trans h.size k.size, fun i hi hs => (k.block i (Nat.lt_of_lt_of_le hi h.size) hs).trans (h.block i hi hs)⟩
/-- .. and something that grows, or writes a row of S, or a new one -/
theorem kb_then {S : Nat → Prop} {a b c : World} {row : Option Nat} (h : Kb S a b) (k : b.grownBy c row) (hr : ∀ r, row = some r → S r ∨ a.heap.size ≤ r) : Kb S a c :=
  ⟨k.os.trans h.os, k.tape.trans h.tape, k.output.trans h.output, Nat.le_trans h.size k.size, fun i hi hs => (k.block i (Nat.lt_of_lt_of_le hi h.size) (fun e => by
    rcases hr i e.symm with h1 | h1
    · exact hs h1
    · omega)).trans (h.block i hi hs)⟩
theorem kb_stay {S : Nat → Prop} {a b c : World} (h : Kb S a b) (k : b.grownBy c none) : Kb S a c := kb_then h k (fun r e => by cases e)
theorem kb_drewN {S : Nat → Prop} {a b : World} (h : Kb S a b) (n : Nat) : Kb S a (b.drewN n) := ⟨h.os, h.tape, h.output, h.size, h.block⟩
/-- new blocks alone are turned, seen from an elder world -/
theorem gb_kb {S : Nat → Prop} {w0 a b : World} (h : w0.grownBy a none) (k : Kb S a b) (hS : ∀ i, S i → w0.heap.size ≤ i) : w0.grownBy b none :=
  ⟨k.os.trans h.os, k.tape.trans h.tape, k.output.trans h.output, Nat.le_trans h.size k.size, fun i hi _ => (k.block i (Nat.lt_of_lt_of_le hi h.size) (fun hs => by have := hS i hs; omega)).trans (h.block i hi (by simp))⟩
theorem Kb.blk {S : Nat → Prop} {w w' : World} (k : Kb S w w') {B : Nat} {T : TypeId} {L : List Value} (h : Blk w B T L) (hs : ¬ S B) : Blk w' B T L := by
  have hlt := h.lt
  unfold Blk at h ⊢; rw [k.block B hlt hs]; exact h
theorem Kb.cell {S : Nat → Prop} {w w' : World} (k : Kb S w w') {p : Addr} (hp : p.block < w.heap.size) (hs : ¬ S p.block) : w'.cell? p = w.cell? p := World.cell?_of_block (w := w) (k.block p.block hp hs)
theorem own_lt {w : World} {base e n g c : Nat} {xs : List Value} (h : w.ownsRow base e 1 (.slice (some ⟨g, 0, none⟩) n c) n xs) : g < w.heap.size ∧ base ≤ g ∧ n ≤ c := by
  rcases h.2 with ⟨h0, _⟩ | ⟨g', c', cur, e1, hb, hg, hnc, _⟩
  · cases h0
  · cases e1
    exact ⟨(Array.getElem?_eq_some_iff.1 hg).1, hb, hnc⟩
/-- what is a row of one's own -/
theorem own_shape {w : World} {base e n : Nat} {v : Value} {xs : List Value} (h : w.ownsRow base e 1 v n xs) : (v = .slice none 0 0 ∧ n = 0) ∨ ∃ g c, v = .slice (some ⟨g, 0, none⟩) n c := by
  rcases h.2 with h0 | ⟨g', c', cur, e1, _⟩
  · exact Or.inl h0
  · exact Or.inr ⟨g', c', e1⟩
/-- a cell set -/
theorem own_set {w : World} {base e n g c i : Nat} {xs : List Value} (h : w.ownsRow base e 1 (.slice (some ⟨g, 0, none⟩) n c) n xs) (v : Value) : (w.setCell ⟨g, i, none⟩ v).ownsRow base e 1 (.slice (some ⟨g, 0, none⟩) n c) n (xs.set i v) := by
  refine ⟨by rw [List.length_set]; exact h.1, ?_⟩
  rcases h.2 with ⟨h0, _⟩ | ⟨g', c', cur, e1, hb, hg, hnc, hcm, hs, ht⟩
  · cases h0
  · cases e1
    have hblk : Blk w g e cur.toList := by unfold Blk; rw [hg]
    have h2 := hblk.set i v
    refine Or.inr ⟨g, c, (cur.toList.set i v).toArray, rfl, hb, h2, hnc, hcm, by simpa using hs, ?_⟩
    rw [← ht, List.take_set]
theorem own_free {w : World} {base e n g c : Nat} {xs : List Value} (h : w.ownsRow base e 1 (.slice (some ⟨g, 0, none⟩) n c) n xs) (i : Nat) : w.frozen? ⟨g, i, none⟩ = false := by
  rcases h.2 with ⟨h0, _⟩ | ⟨g', c', cur, e1, hb, hg, hnc, hcm, hs, ht⟩
  · cases h0
  · cases e1
    have hblk : Blk w g e cur.toList := by unfold Blk; rw [hg]
    exact hblk.free i
/-- its beginning -/
theorem own_take {w : World} {base e n n' g c : Nat} {xs : List Value} (h : w.ownsRow base e 1 (.slice (some ⟨g, 0, none⟩) n' c) n' xs) (hn : n ≤ n') : w.ownsRow base e 1 (.slice (some ⟨g, 0, none⟩) n c) n (xs.take n) := by
  have hl : xs.length = n' := by have := h.1; omega
  refine ⟨by rw [List.length_take]; omega, ?_⟩
  rcases h.2 with ⟨h0, _⟩ | ⟨g', c', cur, e1, hb, hg, hnc, hcm, hs, ht⟩
  · cases h0
  · cases e1
    refine Or.inr ⟨g, c, cur, rfl, hb, hg, by omega, hcm, hs, ?_⟩
    rw [← ht, List.take_take]; congr 1; omega
theorem own_rebase {w : World} {base b' e n g c : Nat} {xs : List Value} (h : w.ownsRow base e 1 (.slice (some ⟨g, 0, none⟩) n c) n xs) (hb : b' ≤ g) : w.ownsRow b' e 1 (.slice (some ⟨g, 0, none⟩) n c) n xs := by
  refine ⟨h.1, ?_⟩
  rcases h.2 with ⟨h0, _⟩ | ⟨g', c', cur, e1, _, hg, hnc, hcm, hs, ht⟩
  · cases h0
  · cases e1; exact Or.inr ⟨g, c, cur, rfl, hb, hg, hnc, hcm, hs, ht⟩
/-- elements of one cell -/
structure Elt (e st : TypeId) (bt : Nat) (z : Value) : Prop where
  sl : Tryz.prog.underlying st = some (.slice e)
  info : ∃ i, Tryz.prog.info? e = some i ∧ i.zero = some z ∧ i.size = 1 ∧ i.bytes = bt ∧ z.cells.size = 1
/-- an append by cases: there is room, or a new block -/
theorem append_cases {e st : TypeId} {bt : Nat} {z : Value} (hE : Elt e st bt z) (w : World) (base g n c : Nat) (xs : List Value) (hown : w.ownsRow base e 1 (.slice (some ⟨g, 0, none⟩) n c) n xs)
    (ad : Addr) (m cc : Nat) (news : List Value) (hl : news.length = m) (hnews : ∀ j u, news[j]? = some u → w.cell? (ad.add j) = some u) (h1 : ∀ u ∈ news, u.oneCell' = true) (hb : (n + m) * bt ≤ 140737488355328) (hb2 : n + m ≤ 140737488355328) :
    (n + m ≤ c ∧ ∃ w', (Builtin.append_ #[st, st] st #[.slice (some ⟨g, 0, none⟩) n c, .slice (some ad) m cc]).run Tryz.prog w = .ok (.slice (some ⟨g, 0, none⟩) (n + m) c) w' ∧ w'.ownsRow base e 1 (.slice (some ⟨g, 0, none⟩) (n + m) c) (n + m) (xs ++ news) ∧ w.grownBy w' (some g)) ∨
    (c < n + m ∧ ∃ c' w', (Builtin.append_ #[st, st] st #[.slice (some ⟨g, 0, none⟩) n c, .slice (some ad) m cc]).run Tryz.prog w = .ok (.slice (some ⟨w.heap.size, 0, none⟩) (n + m) c') w' ∧ w'.ownsRow w.heap.size e 1 (.slice (some ⟨w.heap.size, 0, none⟩) (n + m) c') (n + m) (xs ++ news) ∧ w.grownBy w' none) := by
  obtain ⟨i, hi, hz, hs, hby, hzc⟩ := hE.info
  by_cases h : n + m ≤ c
  · obtain ⟨w', hr, ho, hg⟩ := run_append_fits w base st st e i 1 (P := Tryz.prog) hE.sl hi hs g n c xs hown ad m cc news (by omega) hnews h1 h
    exact Or.inl ⟨h, w', hr, ho, hg⟩
  · refine Or.inr ⟨by omega, ?_⟩
    have hxl : xs.length = n := by have := hown.1; omega
    have hold : ∀ j v, xs[j]? = some v → w.cell? ((⟨g, 0, none⟩ : Addr).add j) = some v := fun j v hv => by
      have hadd : (⟨g, 0, none⟩ : Addr).add j = ⟨g, j, none⟩ := by unfold Addr.add; split <;> simp_all
      rw [hadd]; exact own_cell hown hv
    have hnc : Builtin.nextslicecap (n + m) c * i.bytes ≤ 281474976710656 := growslice_fits (by omega) (by rw [hby]; exact hb)
    have hr := run_append_grow (P := Tryz.prog) w st st e i z hE.sl hi hz ⟨g, 0, none⟩ n c xs (by rw [hs]; omega) hold ad m cc news (by rw [hs]; omega) hnews (by omega) (by omega) hnc
    have hge := grownCap_ge w (n + m) c e
    have hcm : grownCap w (n + m) c e ≤ maxLen := grownCap_le_maxLen w (n + m) c e (by unfold maxLen; omega)
    refine ⟨_, _, hr, ⟨by rw [List.length_append]; omega, Or.inr ⟨w.heap.size, _, _, rfl, Nat.le_refl _, heap_alloc_new w.drew _, hge, hcm, ?_, ?_⟩⟩, ⟨rfl, rfl, rfl, by simp, fun k hk _ => heap_alloc_old w.drew _ hk⟩⟩
    · simp only [Array.size_append, List.size_toArray, size_zeroCells, hzc]
      omega
    · simp only [Array.toList_append, List.append_assoc]
      rw [← List.append_assoc, List.take_left' (by rw [List.length_append]; omega)]
/-- an append to nothing -/
theorem append_to_none {e st : TypeId} {bt : Nat} {z : Value} (hE : Elt e st bt z) (w : World) (ad : Addr) (m cc : Nat) (news : List Value) (hm : 0 < m) (hl : news.length = m) (hnews : ∀ j u, news[j]? = some u → w.cell? (ad.add j) = some u) (h1 : ∀ u ∈ news, u.oneCell' = true) (hb : m * bt ≤ 140737488355328) (hb2 : m ≤ 140737488355328) :
    ∃ g c' w', (Builtin.append_ #[st, st] st #[.slice none 0 0, .slice (some ad) m cc]).run Tryz.prog w = .ok (.slice (some ⟨g, 0, none⟩) m c') w' ∧ w'.ownsRow w.heap.size e 1 (.slice (some ⟨g, 0, none⟩) m c') m news ∧ w.grownBy w' none := by
  obtain ⟨i, hi, hz, hs, hby, hzc⟩ := hE.info
  obtain ⟨v', w', hr, ho, hg, _⟩ := run_append_own w w.heap.size st st e i z 1 bt (P := Tryz.prog) hE.sl hi hz hs hby hzc (by decide) (.slice none 0 0) 0 [] (World.ownsRow_nil w _ e 1) ad m cc news (by omega) hnews h1 (by unfold maxLen; omega) (by rw [Nat.zero_add]; exact hb) (Nat.le_refl _)
  rw [Nat.zero_add, List.nil_append] at ho
  obtain ⟨g, c, rfl, _⟩ := own_some ho hm
  exact ⟨g, c, w', hr, ho, hg⟩
end Go.Proofs.YtmnlidfalhjghaaGreatDoor

/- The kit's flatBytes: lists of bytes that lie apart stay what they are marked. -/
namespace Go.Proofs.YtmnlidfalhjghaaGreatDoor
open Go.RowKit Ow

theorem elt_u8 : Elt 5 22 1 (.int .u8 0) := ⟨Tryz.underlying22, by
  obtain ⟨i, hi, hz, hs, hb⟩ := info_u8z
  exact ⟨i, hi, hz, hs, hb, rfl⟩⟩
/-- lists: where they lie, how long, how much room -/
structure Lists where
  A : Nat → Option Addr
  n : Nat → Nat
  C : Nat → Nat
def Lists.v (V : Lists) (j : Nat) : Value := .slice (V.A j) (V.n j) (V.C j)
def Lists.g (V : Lists) (j : Nat) : Option Nat := (V.A j).map (·.block)
/-- the blocks of the first m -/
def Lists.S (V : Lists) (m : Nat) (i : Nat) : Prop := ∃ j, j < m ∧ V.g j = some i
structure Lists.Apart (V : Lists) (m : Nat) (LB top : Nat) : Prop where
  apart : ∀ j k, j < m → k < m → j ≠ k → V.g j = none ∨ V.g j ≠ V.g k
  ls : ∀ j, j < m → V.g j ≠ some LB
  old : ∀ j, j < m → ∀ i, V.g j = some i → i < top
  small : ∀ j, j < m → V.n j ≤ 100000
theorem Lists.own_block (V : Lists) (j : Nat) : (V.v j).ownBlock = V.g j := by
  unfold Lists.v Lists.g Value.ownBlock
  cases V.A j <;> rfl
def mkV (f : Nat → Nat → Nat) (k c : Nat) : List Value := (marksOf f k c).map u8N
theorem mkV_length (f : Nat → Nat → Nat) (k c : Nat) : (mkV f k c).length = c := by simp [mkV, marksOf_length]
theorem mkV_next (f : Nat → Nat → Nat) (k c : Nat) : mkV f k (c + 1) = mkV f k c ++ [u8N (f k c)] := marksOf_next f k c
theorem mkV_get (f : Nat → Nat → Nat) (k c i : Nat) (h : i < c) : (mkV f k c)[i]? = some (u8N (f k i)) := by
  unfold mkV
  rw [u8_getD (by rw [marksOf_length]; exact h), marksOf_get f k c i h]
theorem mkV_take (f : Nat → Nat → Nat) (k c d : Nat) (h : d ≤ c) : (mkV f k c).take d = mkV f k d := by
  apply List.ext_getElem?
  intro i
  rw [List.getElem?_take]
  by_cases hi : i < d
  · rw [if_pos hi, mkV_get f k c i (by omega), mkV_get f k d i hi]
  · rw [if_neg hi, List.getElem?_eq_none (by rw [mkV_length]; omega)]
theorem mkV_one (f : Nat → Nat → Nat) (k c : Nat) : ∀ u ∈ mkV f k c, u.oneCell' = true := by
  intro u hu
  obtain ⟨x, _, rfl⟩ := List.mem_map.1 hu
  rfl
/-- amid marking -/
def amid (f : Nat → Nat → Nat) (k i : Nat) (xs : List Value) : List Value := mkV f k i ++ xs.drop i
theorem amid_start (f : Nat → Nat → Nat) (k : Nat) (xs : List Value) : amid f k 0 xs = xs := by simp [amid, mkV, marksOf]
theorem amid_end (f : Nat → Nat → Nat) (k n : Nat) (xs : List Value) (h : xs.length = n) : amid f k n xs = mkV f k n := by
  unfold amid; rw [List.drop_eq_nil_of_le (by omega), List.append_nil]
theorem amid_set (f : Nat → Nat → Nat) (k i : Nat) (xs : List Value) (h : i < xs.length) : (amid f k i xs).set i (u8N (f k i)) = amid f k (i + 1) xs := by
  unfold amid
  rw [List.set_append_right _ _ (by rw [mkV_length]; omega), mkV_length, Nat.sub_self, mkV_next, List.append_assoc]
  congr 1
  rw [List.drop_eq_getElem_cons h]
  rfl
/-- each list, the first k marked, of the next one i -/
def rowAt (f : Nat → Nat → Nat) (V : Lists) (xs : Nat → List Value) (k i j : Nat) : List Value := if j < k then mkV f j (V.n j) else if j = k then amid f k i (xs j) else xs j
def Owns (w : World) (V : Lists) (m : Nat) (r : Nat → List Value) : Prop := ∀ j, j < m → w.ownsRow 0 5 1 (V.v j) (V.n j) (r j)
theorem Owns.kept {w w' : World} {V : Lists} {m : Nat} {r : Nat → List Value} (h : Owns w V m r) {row : Option Nat} (hg : w.grownBy w' row) (hr : ∀ j, j < m → V.g j = none ∨ V.g j ≠ row) : Owns w' V m r := fun j hj =>
  (h j hj).kept hg (by rw [V.own_block]; exact hr j hj)
theorem Owns.stay {w w' : World} {V : Lists} {m : Nat} {r : Nat → List Value} (h : Owns w V m r) (hg : w.grownBy w' none) : Owns w' V m r := h.kept hg (fun j _ => by cases V.g j <;> simp)
theorem Owns.congr {w : World} {V : Lists} {m : Nat} {r r' : Nat → List Value} (h : Owns w V m r) (hr : ∀ j, j < m → r j = r' j) : Owns w V m r' := fun j hj => hr j hj ▸ h j hj
/-- list k has a block, if it is not empty -/
theorem Owns.some {w : World} {V : Lists} {m : Nat} {r : Nat → List Value} (h : Owns w V m r) {k : Nat} (hk : k < m) (hn : 0 < V.n k) : ∃ g, V.A k = some ⟨g, 0, none⟩ ∧ V.g k = some g := by
  obtain ⟨g, c, e, _⟩ := own_some (h k hk) hn
  unfold Lists.v at e
  cases e' : V.A k with
  | none => rw [e'] at e; cases e
  | some a =>
    rw [e'] at e
    cases e
    exact ⟨g, rfl, by unfold Lists.g; rw [e']; rfl⟩
/-- one cell of list k set -/
theorem Owns.set {w : World} {V : Lists} {m LB top : Nat} {r r' : Nat → List Value} (h : Owns w V m r) (hV : V.Apart m LB top) {k i g : Nat} (hk : k < m) (hA : V.A k = Option.some ⟨g, 0, none⟩) (v : Value) (hr : ∀ j, j < m → r' j = if j = k then (r k).set i v else r j) : Owns (w.setCell ⟨g, i, none⟩ v) V m r' := by
  intro j hj
  rw [hr j hj]
  by_cases e : j = k
  · subst e
    rw [if_pos rfl]
    have := h j hj
    unfold Lists.v at this ⊢
    rw [hA] at this ⊢
    exact own_set this v
  · rw [if_neg e]
    refine (h j hj).kept (gb_set (gb_refl w (Option.some g)) i v) ?_
    rw [V.own_block]
    have hgk : V.g k = Option.some g := by unfold Lists.g; rw [hA]; rfl
    rw [← hgk]
    exact hV.apart j k hj hk e
/-- the list of the lists, in its block (with room behind it) -/
def ListAt (w : World) (LB : Nat) (V : Lists) (m : Nat) : Prop := ∃ tl, Blk w LB 22 ((List.range m).map V.v ++ tl)
theorem ListAt.lt {w : World} {LB : Nat} {V : Lists} {m : Nat} (h : ListAt w LB V m) : LB < w.heap.size := h.elim fun _ h => h.lt
theorem ListAt.grown {w w' : World} {LB : Nat} {V : Lists} {m : Nat} {row : Option Nat} (h : ListAt w LB V m) (hg : w.grownBy w' row) (hr : some LB ≠ row) : ListAt w' LB V m := h.elim fun tl h => ⟨tl, h.grown hg hr⟩
theorem ListAt.other {w : World} {LB : Nat} {V : Lists} {m : Nat} (h : ListAt w LB V m) {a : Addr} (ha : a.block ≠ LB) (v : Value) : ListAt (w.setCell a v) LB V m := h.elim fun tl h => ⟨tl, h.other ha v⟩
theorem ListAt.cell {w : World} {LB : Nat} {V : Lists} {m k : Nat} (h : ListAt w LB V m) (hk : k < m) : w.cell? ⟨LB, k, none⟩ = some (V.v k) := h.elim fun tl h => h.cell (by rw [List.getElem?_append_left (by simpa using hk)]; simp [hk])
/-- what the loops keep: the lists' own list, what the lists hold, and all else -/
structure FlatAt (V : Lists) (m LB : Nat) (w wr : World) (r : Nat → List Value) : Prop where
  own : Owns wr V m r
  list : ListAt wr LB V m
  kept : Kb (V.S m) w wr
theorem FlatAt.at {V : Lists} {m LB k : Nat} {w wr : World} {r : Nat → List Value} (h : FlatAt V m LB w wr r) (hk : k < m) : wr.cell? ⟨LB, k, none⟩ = some (.slice (V.A k) (V.n k) (V.C k)) :=
  h.list.cell hk
theorem FlatAt.congr {V : Lists} {m LB : Nat} {w wr : World} {r r' : Nat → List Value} (h : FlatAt V m LB w wr r) (e : ∀ j, j < m → r j = r' j) : FlatAt V m LB w wr r' := ⟨h.own.congr e, h.list, h.kept⟩
theorem FlatAt.drew {V : Lists} {m LB : Nat} {w wr : World} {r : Nat → List Value} (h : FlatAt V m LB w wr r) (n : Nat) : FlatAt V m LB w (wr.drewN n) r :=
  ⟨h.own.stay (gb_drewN (gb_refl _ _) n), h.list, kb_drewN h.kept n⟩
theorem FlatAt.stay {V : Lists} {m LB : Nat} {w wr w' : World} {r : Nat → List Value} (h : FlatAt V m LB w wr r) (hg : wr.grownBy w' none) : FlatAt V m LB w w' r :=
  ⟨h.own.stay hg, h.list.grown hg (by simp), kb_stay h.kept hg⟩
theorem rowAt_next (f : Nat → Nat → Nat) (V : Lists) (xs : Nat → List Value) (k j : Nat) (hl : (xs k).length = V.n k) : rowAt f V xs k (V.n k) j = rowAt f V xs (k + 1) 0 j := by
  unfold rowAt
  by_cases h1 : j < k
  · rw [if_pos h1, if_pos (by omega)]
  · rw [if_neg h1]
    by_cases h2 : j = k
    · subst h2; rw [if_pos rfl, if_pos (by omega), amid_end _ _ _ _ hl]
    · rw [if_neg h2, if_neg (by omega)]
      by_cases h3 : j = k + 1
      · rw [if_pos h3, h3, amid_start]
      · rw [if_neg h3]
theorem rowAt_set (f : Nat → Nat → Nat) (V : Lists) (xs : Nat → List Value) (k i j : Nat) (hi : i < (xs k).length) : rowAt f V xs k (i + 1) j = if j = k then (rowAt f V xs k i k).set i (u8N (f k i)) else rowAt f V xs k i j := by
  unfold rowAt
  by_cases h2 : j = k
  · subst h2; simp only [Nat.lt_irrefl, if_false, if_pos]; rw [amid_set _ _ _ _ hi]
  · simp only [if_neg h2]
theorem rowAt_end (f : Nat → Nat → Nat) (V : Lists) (xs : Nat → List Value) (m j : Nat) (h : j < m) : rowAt f V xs m 0 j = mkV f j (V.n j) := by unfold rowAt; rw [if_pos h]
theorem rowAt_start (f : Nat → Nat → Nat) (V : Lists) (xs : Nat → List Value) (j : Nat) : rowAt f V xs 0 0 j = xs j := by
  unfold rowAt
  rw [if_neg (by omega)]
  by_cases h : j = 0
  · rw [if_pos h, amid_start, h]
  · rw [if_neg h]
theorem FlatAt.set {f : Nat → Nat → Nat} {V : Lists} {m LB k i g : Nat} {w wr : World} {xs : Nat → List Value} (hV : V.Apart m LB w.heap.size) (h : FlatAt V m LB w wr (rowAt f V xs k i)) (hk : k < m) (hi : i < (xs k).length) (hA : V.A k = some ⟨g, 0, none⟩) : FlatAt V m LB w (wr.setCell ⟨g, i, none⟩ (u8N (f k i))) (rowAt f V xs k (i + 1)) := by
  have hg : V.g k = some g := by unfold Lists.g; rw [hA]; rfl
  refine ⟨h.own.set hV hk hA _ (fun j _ => rowAt_set f V xs k i j hi), h.list.other (fun e => hV.ls k hk (by rw [hg]; exact congrArg some e)) _, kb_then h.kept (gb_set (gb_refl _ (some g)) i _) (fun r e => Or.inl ?_)⟩
  cases e
  exact ⟨k, hk, hg⟩
theorem FlatAt.old {f : Nat → Nat → Nat} {V : Lists} {m LB k i g : Nat} {w wr : World} {xs : Nat → List Value} (h : FlatAt V m LB w wr (rowAt f V xs k i)) (hk : k < m) (hi : i < (xs k).length) (hA : V.A k = some ⟨g, 0, none⟩) : ∃ u, wr.cell? ⟨g, i, none⟩ = some u := by
  have := h.own k hk
  unfold Lists.v at this
  rw [hA] at this
  refine ⟨(xs k)[i], own_cell this ?_⟩
  unfold rowAt
  rw [if_neg (by omega), if_pos rfl]
  unfold amid
  rw [List.getElem?_append_right (by rw [mkV_length]; omega), mkV_length, Nat.sub_self, List.getElem?_drop, Nat.add_zero, List.getElem?_eq_getElem hi]
theorem FlatAt.free {V : Lists} {m LB k i g : Nat} {w wr : World} {r : Nat → List Value} (h : FlatAt V m LB w wr r) (hk : k < m) (hA : V.A k = some ⟨g, 0, none⟩) : wr.frozen? ⟨g, i, none⟩ = false := by
  have := h.own k hk
  unfold Lists.v at this
  rw [hA] at this
  exact own_free this i
end Go.Proofs.YtmnlidfalhjghaaGreatDoor

/- The kit's flatBytes: lists that are appended to. -/
namespace Go.Proofs.YtmnlidfalhjghaaGreatDoor
open Go.RowKit Ow

theorem info_slz : ∃ i, Tryz.prog.info? 22 = some i ∧ i.zero = some (.slice none 0 0) ∧ i.size = 1 ∧ i.bytes = 24 := by
  have h : (Tryz.prog.info? 22).map (fun i => (i.zero, i.size, i.bytes)) = some (some (.slice none 0 0), 1, 24) := by kernel_rfl
  cases hi : Tryz.prog.info? 22 with
  | none => rw [hi] at h; cases h
  | some i =>
    rw [hi] at h
    simp only [Option.map_some, Option.some.injEq, Prod.mk.injEq] at h
    exact ⟨i, rfl, h.1, h.2.1, h.2.2⟩
theorem made_nils (n : Nat) : madeCells (Value.slice none 0 0).cells n = (List.replicate n (Value.slice none 0 0)).toArray := by
  unfold madeCells
  apply Array.ext
  · simp
  · intro i h1 h2
    simp [Value.cells, Nat.mod_one]
/-- make([][]byte, n): a new block of nils -/
theorem make_nils (n : Nat) (w : World) (hn : n ≤ 100000) : ∃ w', (Instr.makeSlice 31 (.int .i64 n) (.int .i64 n)).run Tryz.prog w = .ok (.slice (some ⟨w.heap.size, 0, none⟩) n n) w' ∧
    w.grownBy w' none ∧ w'.heap.size = w.heap.size + 1 ∧ Blk w' w.heap.size 22 (List.replicate n (.slice none 0 0)) := by
  obtain ⟨i, hi, hz, hs, hb⟩ := info_slz
  have h2 := run_make (P := Tryz.prog) w 31 22 i (.slice none 0 0) Tryz.underlying31 hi hz .i64 .i64 n n (by omega) (by omega) (by rw [hb]; omega) (by omega)
  rw [hs, Nat.mul_one, Int.toNat_natCast, made_nils] at h2
  exact ⟨_, h2, gb_alloc (gb_refl _ _) _, by simp, Blk.new w _ _⟩
/-- a list that began as list k: in its place, or in a block made since -/
def Grew (V : Lists) (k sz n : Nat) (v : Value) : Prop := v = .slice (V.A k) n (V.C k) ∨ ∃ g c, v = .slice (some ⟨g, 0, none⟩) n c ∧ sz ≤ g
/-- an append to such a list: all lists stay -/
theorem flat_append {V : Lists} {m LB k : Nat} {w wk wr : World} {r : Nat → List Value} (hV : V.Apart m LB w.heap.size) (hLB : LB < w.heap.size) (hw : w.heap.size ≤ wk.heap.size) (hF : FlatAt V m LB w wr r) (hK : Kb (fun i => V.g k = some i) wk wr) (hk : k < m) (v : Value) (n : Nat) (xs : List Value) (hn : V.n k ≤ n)
    (hown : wr.ownsRow 0 5 1 v n xs) (hx : xs.take (V.n k) = r k) (hsh : Grew V k wk.heap.size n v) (ad : Addr) (q cc : Nat) (news : List Value) (hq : 0 < q) (hl : news.length = q) (hnews : ∀ j u, news[j]? = some u → wr.cell? (ad.add j) = some u) (h1 : ∀ u ∈ news, u.oneCell' = true) (hb : n + q ≤ 200000) :
    ∃ v' w', (Builtin.append_ #[22, 22] 22 #[v, .slice (some ad) q cc]).run Tryz.prog wr = .ok v' w' ∧ FlatAt V m LB w w' r ∧ Kb (fun i => V.g k = some i) wk w' ∧ w'.ownsRow 0 5 1 v' (n + q) (xs ++ news) ∧ Grew V k wk.heap.size (n + q) v' := by
  have hxl : xs.length = n := by have := hown.1; omega
  rcases own_shape hown with ⟨rfl, rfl⟩ | ⟨g, c, rfl⟩
  · obtain ⟨g, c', w', hr, ho, hg⟩ := append_to_none elt_u8 wr ad q cc news hq hl hnews h1 (by omega) (by omega)
    have := own_lt ho
    have hs := hK.size
    obtain rfl : xs = [] := List.eq_nil_of_length_eq_zero hxl
    rw [Nat.zero_add, List.nil_append]
    exact ⟨_, w', hr, hF.stay hg, kb_stay hK hg, own_rebase ho (by omega), Or.inr ⟨g, c', rfl, by omega⟩⟩
  · rcases append_cases elt_u8 wr 0 g n c xs hown ad q cc news hl hnews h1 (by omega) (by omega) with ⟨_, w', hr, ho, hg⟩ | ⟨_, c', w', hr, ho, hg⟩
    · rcases hsh with e | ⟨g', c', e, hgw⟩
      · obtain ⟨hA, hC⟩ : V.A k = some ⟨g, 0, none⟩ ∧ V.C k = c := ⟨(Value.slice.inj e).1.symm, (Value.slice.inj e).2.2.symm⟩
        have hgk : V.g k = some g := by unfold Lists.g; rw [hA]; rfl
        refine ⟨_, w', hr, ⟨fun j hj => ?_, hF.list.grown hg (fun e => hV.ls k hk (by rw [hgk, ← e])), kb_then hF.kept hg (fun r e => by cases e; exact Or.inl ⟨k, hk, hgk⟩)⟩, kb_then hK hg (fun r e => by cases e; exact Or.inl hgk), ho, Or.inl (by rw [hA, hC])⟩
        by_cases ej : j = k
        · subst ej
          have h := own_take ho (n := V.n j) (by omega)
          rw [List.take_append_of_le_length (by omega), hx] at h
          unfold Lists.v
          rw [hA, hC]
          exact h
        · exact (hF.own j hj).kept hg (by rw [V.own_block, ← hgk]; exact hV.apart j k hj hk ej)
      · cases e
        refine ⟨_, w', hr, ⟨fun j hj => (hF.own j hj).kept hg ?_, hF.list.grown hg (fun e => by cases e; omega), kb_then hF.kept hg (fun r e => by cases e; exact Or.inr (by omega))⟩, kb_then hK hg (fun r e => by cases e; exact Or.inr (by omega)), ho, Or.inr ⟨g, c, rfl, hgw⟩⟩
        rw [V.own_block]
        cases e : V.g j with
        | none => exact Or.inl rfl
        | some i => exact Or.inr (fun e' => by cases e'; have := hV.old j hj _ e; omega)
    · have := hK.size
      exact ⟨_, w', hr, hF.stay hg, kb_stay hK hg, own_rebase ho (by omega), Or.inr ⟨_, c', rfl, by omega⟩⟩
/-- a grown list, filed away: where it lies, what it holds -/
def GOne (f : Nat → Nat → Nat) (V : Lists) (GB : Nat) (wr : World) (j : Nat) (v : Value) : Prop :=
  ∃ g c, v = .slice (some ⟨g, 0, none⟩) (V.n j + 64) c ∧ (V.g j = some g ∨ GB < g) ∧ g < wr.heap.size ∧ V.n j + 64 ≤ c ∧ ∀ i, i < V.n j + 64 → wr.cell? ⟨g, i, none⟩ = some (u8N (f j i))
theorem GOne.kb {f : Nat → Nat → Nat} {V : Lists} {m LB GB top j : Nat} {wk wr : World} {v : Value} {S : Nat → Prop} (h : GOne f V GB wk j v) (hV : V.Apart m LB top) (hj : j < m) (ht : top ≤ GB) (hK : Kb S wk wr) (hS : ∀ i, S i → i = GB ∨ ∃ k, k < m ∧ k ≠ j ∧ V.g k = some i) : GOne f V GB wr j v := by
  obtain ⟨g, c, rfl, hg, hlt, hc, hcell⟩ := h
  refine ⟨g, c, rfl, hg, Nat.lt_of_lt_of_le hlt hK.size, hc, fun i hi => ?_⟩
  rw [hK.cell (p := ⟨g, i, none⟩) hlt (fun hs => ?_)]
  · exact hcell i hi
  · rcases hS g hs with e | ⟨k, hk, hkj, e⟩
    · rcases hg with h1 | h1
      · have := hV.old j hj g h1; omega
      · omega
    · rcases hg with h1 | h1
      · rcases hV.apart k j hk hj hkj with h2 | h2
        · rw [h2] at e; cases e
        · exact h2 (by rw [e, h1])
      · have := hV.old k hk g e; omega
/-- a list grown by 64 marks is such a one -/
theorem GOne.of {f : Nat → Nat → Nat} {V : Lists} {GB sz k : Nat} {wr : World} {v : Value} (ho : wr.ownsRow 0 5 1 v (V.n k + 64) (mkV f k (V.n k + 64))) (hg : Grew V k sz (V.n k + 64) v) (hs : GB < sz) : GOne f V GB wr k v := by
  obtain ⟨g, c, rfl, _, hnc, _, hlt⟩ := own_some ho (by omega)
  refine ⟨g, c, rfl, ?_, hlt, hnc, fun i hi => own_cell ho (mkV_get f k _ i hi)⟩
  rcases hg with e | ⟨g', c', e, h⟩
  · refine Or.inl ?_
    unfold Lists.g
    cases hA : V.A k with
    | none => rw [hA] at e; cases e
    | some a => rw [hA] at e; cases e; rfl
  · cases e
    exact Or.inr (by omega)
/-- the first k filed, of m -/
def filed (vs : Nat → Value) (k m : Nat) : List Value := (List.range k).map vs ++ List.replicate (m - k) (.slice none 0 0)
theorem filed_start (vs : Nat → Value) (m : Nat) : filed vs 0 m = List.replicate m (.slice none 0 0) := by simp [filed]
theorem filed_end (vs : Nat → Value) (m : Nat) : filed vs m m = (List.range m).map vs := by simp [filed]
theorem filed_nil (vs : Nat → Value) (k m : Nat) (h : k < m) : (filed vs k m)[k]? = some (.slice none 0 0) := by
  unfold filed
  rw [List.getElem?_append_right (by simp), List.length_map, List.length_range, Nat.sub_self, List.getElem?_replicate, if_pos (by omega)]
theorem filed_set (vs : Nat → Value) (k m : Nat) (v : Value) (h : k < m) : (filed vs k m).set k v = filed (fun j => if j = k then v else vs j) (k + 1) m := by
  unfold filed
  rw [List.set_append_right _ _ (by simp), List.length_map, List.length_range, Nat.sub_self, show m - k = (m - (k + 1)) + 1 by omega, List.replicate_succ, List.set_cons_zero, List.range_succ, List.map_append, List.append_assoc]
  congr 1
  · apply List.map_congr_left
    intro j hj
    have := List.mem_range.1 hj
    rw [if_neg (by omega)]
  · simp
/-- all lists as they were marked; the first k grown ones filed in block GB -/
structure Filed (f : Nat → Nat → Nat) (V : Lists) (m LB GB : Nat) (w wr : World) (r : Nat → List Value) (vs : Nat → Value) (k : Nat) : Prop where
  flat : FlatAt V m LB w wr r
  block : Blk wr GB 22 (filed vs k m)
  ones : ∀ j, j < k → GOne f V GB wr j (vs j)
theorem Filed.stay {f : Nat → Nat → Nat} {V : Lists} {m LB GB : Nat} {w wr w' : World} {r : Nat → List Value} {vs : Nat → Value} {k : Nat} (h : Filed f V m LB GB w wr r vs k) (hg : wr.grownBy w' none) : Filed f V m LB GB w w' r vs k := by
  refine ⟨h.flat.stay hg, h.block.grown hg (by simp), fun j hj => ?_⟩
  obtain ⟨g, c, e, h1, h2, h3, h4⟩ := h.ones j hj
  exact ⟨g, c, e, h1, Nat.lt_of_lt_of_le h2 hg.size, h3, fun i hi => by rw [gb_cell hg (p := ⟨g, i, none⟩) h2 (by simp)]; exact h4 i hi⟩
theorem Filed.drew {f : Nat → Nat → Nat} {V : Lists} {m LB GB : Nat} {w wr : World} {r : Nat → List Value} {vs : Nat → Value} {k : Nat} (h : Filed f V m LB GB w wr r vs k) (n : Nat) : Filed f V m LB GB w (wr.drewN n) r vs k := h.stay (gb_drewN (gb_refl _ _) n)
/-- list k grown, and filed -/
theorem Filed.next {f : Nat → Nat → Nat} {V : Lists} {m LB GB : Nat} {w wk wr : World} {r : Nat → List Value} {vs : Nat → Value} {k : Nat} {v : Value} (hV : V.Apart m LB w.heap.size) (hLB : LB < w.heap.size) (hk : k < m) (hGB : w.heap.size ≤ GB) (h : Filed f V m LB GB w wk r vs k) (hF : FlatAt V m LB w wr r) (hK : Kb (fun i => V.g k = some i) wk wr)
    (ho : wr.ownsRow 0 5 1 v (V.n k + 64) (mkV f k (V.n k + 64))) (hg : Grew V k wk.heap.size (V.n k + 64) v) :
    wr.cell? ⟨GB, k, none⟩ = some (.slice none 0 0) ∧ wr.frozen? ⟨GB, k, none⟩ = false ∧ Filed f V m LB GB w (wr.setCell ⟨GB, k, none⟩ v) r (fun j => if j = k then v else vs j) (k + 1) := by
  have hb : Blk wr GB 22 (filed vs k m) := hK.blk h.block (fun e => by have := hV.old k hk _ e; omega)
  have hlt := h.block.lt
  have hs : Kb (fun i => i = GB) wr (wr.setCell ⟨GB, k, none⟩ v) := kb_then (kb_refl _ _) (gb_set (gb_refl wr (some GB)) k v) (fun r e => by cases e; exact Or.inl rfl)
  have hgs : wr.grownBy (wr.setCell ⟨GB, k, none⟩ v) (some GB) := gb_set (gb_refl wr (some GB)) k v
  refine ⟨hb.cell (filed_nil vs k m hk), hb.free k, ⟨hF.own.kept hgs (fun j hj => ?_), hF.list.grown hgs (fun e => by cases e; omega), kb_then hF.kept hgs (fun r e => by cases e; exact Or.inr hGB)⟩, by rw [← filed_set vs k m v hk]; exact hb.set k v, fun j hj => ?_⟩
  · cases e : V.g j with
    | none => exact Or.inl rfl
    | some i => exact Or.inr (fun e' => by cases e'; have := hV.old j hj _ e; omega)
  · by_cases e : j = k
    · subst e
      simp only [if_true]
      exact (GOne.of ho hg hlt).kb hV hk hGB hs (fun i hi => Or.inl hi)
    · simp only [if_neg e]
      exact ((h.ones j (by omega)).kb hV (by omega) hGB hK (fun i hi => Or.inr ⟨k, hk, fun e' => e e'.symm, hi⟩)).kb hV (by omega) hGB hs (fun i hi => Or.inl hi)
/-- the filed list j, once all are -/
theorem Filed.at {f : Nat → Nat → Nat} {V : Lists} {m LB GB : Nat} {w wr : World} {r : Nat → List Value} {vs : Nat → Value} (h : Filed f V m LB GB w wr r vs m) {j : Nat} (hj : j < m) :
    ∃ g c, vs j = .slice (some ⟨g, 0, none⟩) (V.n j + 64) c ∧ wr.cell? ⟨GB, j, none⟩ = some (.slice (some ⟨g, 0, none⟩) (V.n j + 64) c) ∧ (∀ i, i < V.n j + 64 → wr.cell? ⟨g, i, none⟩ = some (u8N (f j i))) ∧ V.n j + 64 ≤ c := by
  obtain ⟨g, c, e, _, _, h3, h4⟩ := h.ones j hj
  refine ⟨g, c, e, h.block.cell ?_, h4, h3⟩
  rw [filed_end, ← e]
  simp [hj]
/-- a mark of a list -/
theorem FlatAt.mark {f : Nat → Nat → Nat} {V : Lists} {m LB k i : Nat} {w wr : World} (h : FlatAt V m LB w wr (fun j => mkV f j (V.n j))) (hk : k < m) (hi : i < V.n k) : ∃ g, V.A k = some ⟨g, 0, none⟩ ∧ wr.cell? ⟨g, i, none⟩ = some (u8N (f k i)) := by
  obtain ⟨g, hA, _⟩ := h.own.some hk (by omega)
  have := h.own k hk
  unfold Lists.v at this
  rw [hA] at this
  exact ⟨g, hA, own_cell this (mkV_get f k _ i hi)⟩
theorem Blk.get {w : World} {B : Nat} {T : TypeId} {L : List Value} (h : Blk w B T L) {i : Nat} (hi : i < L.length) : ∃ u, w.cell? ⟨B, i, none⟩ = some u := ⟨L[i], h.cell (List.getElem?_eq_getElem hi)⟩
theorem amid_get (f : Nat → Nat → Nat) (k i : Nat) (xs : List Value) (h : i < xs.length) : i < (amid f k i xs).length := by
  unfold amid; rw [List.length_append, mkV_length, List.length_drop]; omega
/-- a list whose marks are still there -/
def GTwo (f : Nat → Nat → Nat) (V : Lists) (GB : Nat) (wr : World) (j : Nat) (v : Value) : Prop :=
  ∃ g c, v = .slice (some ⟨g, 0, none⟩) (V.n j + 64) c ∧ (V.g j = some g ∨ GB < g) ∧ g < wr.heap.size ∧ V.n j + 64 ≤ c ∧ ∀ i, i < V.n j → wr.cell? ⟨g, i, none⟩ = some (u8N (f j i))
theorem GTwo.kb {f : Nat → Nat → Nat} {V : Lists} {m LB GB top j : Nat} {wk wr : World} {v : Value} {S : Nat → Prop} (h : GTwo f V GB wk j v) (hV : V.Apart m LB top) (hj : j < m) (ht : top ≤ GB) (hK : Kb S wk wr) (hS : ∀ i, S i → i = GB ∨ ∃ k, k < m ∧ k ≠ j ∧ V.g k = some i) : GTwo f V GB wr j v := by
  obtain ⟨g, c, rfl, hg, hlt, hc, hcell⟩ := h
  refine ⟨g, c, rfl, hg, Nat.lt_of_lt_of_le hlt hK.size, hc, fun i hi => ?_⟩
  rw [hK.cell (p := ⟨g, i, none⟩) hlt (fun hs => ?_)]
  · exact hcell i hi
  · rcases hS g hs with e | ⟨k, hk, hkj, e⟩
    · rcases hg with h1 | h1
      · have := hV.old j hj g h1; omega
      · omega
    · rcases hg with h1 | h1
      · rcases hV.apart k j hk hj hkj with h2 | h2
        · rw [h2] at e; cases e
        · exact h2 (by rw [e, h1])
      · have := hV.old k hk g e; omega
theorem GTwo.of {f : Nat → Nat → Nat} {V : Lists} {GB sz k : Nat} {wr : World} {v : Value} {ys : List Value} (ho : wr.ownsRow 0 5 1 v (V.n k + 64) (mkV f k (V.n k) ++ ys)) (hg : Grew V k sz (V.n k + 64) v) (hs : GB < sz) : GTwo f V GB wr k v := by
  obtain ⟨g, c, rfl, _, hnc, _, hlt⟩ := own_some ho (by omega)
  refine ⟨g, c, rfl, ?_, hlt, hnc, fun i hi => own_cell ho (by rw [List.getElem?_append_left (by rw [mkV_length]; exact hi)]; exact mkV_get f k _ i hi)⟩
  rcases hg with e | ⟨g', c', e, h⟩
  · refine Or.inl ?_
    unfold Lists.g
    cases hA : V.A k with
    | none => rw [hA] at e; cases e
    | some a => rw [hA] at e; cases e; rfl
  · cases e
    exact Or.inr (by omega)
/-- filed again, the first k -/
structure Again (f : Nat → Nat → Nat) (V : Lists) (m LB GB : Nat) (w wr : World) (r : Nat → List Value) (L : List Value) (k : Nat) : Prop where
  flat : FlatAt V m LB w wr r
  block : Blk wr GB 22 L
  len : L.length = m
  ones : ∀ j, j < k → ∃ v, L[j]? = some v ∧ GTwo f V GB wr j v
theorem Filed.again {f : Nat → Nat → Nat} {V : Lists} {m LB GB : Nat} {w wr : World} {r : Nat → List Value} {vs : Nat → Value} {k : Nat} (h : Filed f V m LB GB w wr r vs k) (hk : k ≤ m) : Again f V m LB GB w wr r (filed vs k m) 0 :=
  ⟨h.flat, h.block, by simp [filed]; omega, fun j hj => by omega⟩
theorem Again.stay {f : Nat → Nat → Nat} {V : Lists} {m LB GB : Nat} {w wr w' : World} {r : Nat → List Value} {L : List Value} {k : Nat} (h : Again f V m LB GB w wr r L k) (hg : wr.grownBy w' none) : Again f V m LB GB w w' r L k := by
  refine ⟨h.flat.stay hg, h.block.grown hg (by simp), h.len, fun j hj => ?_⟩
  obtain ⟨v, hv, g, c, e, h1, h2, h3, h4⟩ := h.ones j hj
  exact ⟨v, hv, g, c, e, h1, Nat.lt_of_lt_of_le h2 hg.size, h3, fun i hi => by rw [gb_cell hg (p := ⟨g, i, none⟩) h2 (by simp)]; exact h4 i hi⟩
theorem Again.drew {f : Nat → Nat → Nat} {V : Lists} {m LB GB : Nat} {w wr : World} {r : Nat → List Value} {L : List Value} {k : Nat} (h : Again f V m LB GB w wr r L k) (n : Nat) : Again f V m LB GB w (wr.drewN n) r L k := h.stay (gb_drewN (gb_refl _ _) n)
theorem Again.next {f : Nat → Nat → Nat} {V : Lists} {m LB GB : Nat} {w wk wr : World} {r : Nat → List Value} {L ys : List Value} {k : Nat} {v : Value} (hV : V.Apart m LB w.heap.size) (hLB : LB < w.heap.size) (hk : k < m) (hGB : w.heap.size ≤ GB) (h : Again f V m LB GB w wk r L k) (hF : FlatAt V m LB w wr r) (hK : Kb (fun i => V.g k = some i) wk wr)
    (ho : wr.ownsRow 0 5 1 v (V.n k + 64) (mkV f k (V.n k) ++ ys)) (hg : Grew V k wk.heap.size (V.n k + 64) v) :
    (∃ u, wr.cell? ⟨GB, k, none⟩ = some u) ∧ wr.frozen? ⟨GB, k, none⟩ = false ∧ Again f V m LB GB w (wr.setCell ⟨GB, k, none⟩ v) r (L.set k v) (k + 1) := by
  have hb : Blk wr GB 22 L := hK.blk h.block (fun e => by have := hV.old k hk _ e; omega)
  have hlt := h.block.lt
  have hll := h.len
  have hs : Kb (fun i => i = GB) wr (wr.setCell ⟨GB, k, none⟩ v) := kb_then (kb_refl _ _) (gb_set (gb_refl wr (some GB)) k v) (fun r e => by cases e; exact Or.inl rfl)
  have hgs : wr.grownBy (wr.setCell ⟨GB, k, none⟩ v) (some GB) := gb_set (gb_refl wr (some GB)) k v
  refine ⟨hb.get (by omega), hb.free k, ⟨hF.own.kept hgs (fun j hj => ?_), hF.list.grown hgs (fun e => by cases e; omega), kb_then hF.kept hgs (fun r e => by cases e; exact Or.inr hGB)⟩, hb.set k v, by rw [List.length_set]; exact hll, fun j hj => ?_⟩
  · cases e : V.g j with
    | none => exact Or.inl rfl
    | some i => exact Or.inr (fun e' => by cases e'; have := hV.old j hj _ e; omega)
  · by_cases e : j = k
    · subst e
      exact ⟨v, by rw [List.getElem?_set_self (by omega)], (GTwo.of ho hg hlt).kb hV hk hGB hs (fun i hi => Or.inl hi)⟩
    · obtain ⟨u, hu, h2⟩ := h.ones j (by omega)
      exact ⟨u, by rw [List.getElem?_set_ne (fun e' => e e'.symm)]; exact hu, (h2.kb hV (by omega) hGB hK (fun i hi => Or.inr ⟨k, hk, fun e' => e e'.symm, hi⟩)).kb hV (by omega) hGB hs (fun i hi => Or.inl hi)⟩
theorem Again.at {f : Nat → Nat → Nat} {V : Lists} {m LB GB : Nat} {w wr : World} {r : Nat → List Value} {L : List Value} (h : Again f V m LB GB w wr r L m) {j : Nat} (hj : j < m) :
    ∃ g c, wr.cell? ⟨GB, j, none⟩ = some (.slice (some ⟨g, 0, none⟩) (V.n j + 64) c) ∧ (∀ i, i < V.n j → wr.cell? ⟨g, i, none⟩ = some (u8N (f j i))) ∧ V.n j + 64 ≤ c := by
  obtain ⟨v, hv, g, c, rfl, _, _, h3, h4⟩ := h.ones j hj
  exact ⟨g, c, h.block.cell hv, h4, h3⟩
end Go.Proofs.YtmnlidfalhjghaaGreatDoor

/- The kit's bag: lists of bytes put into it. -/
namespace Go.Proofs.YtmnlidfalhjghaaGreatDoor
open Go.RowKit Ow

theorem elt_slz : Elt 22 31 24 (.slice none 0 0) := ⟨Tryz.underlying31, by
  obtain ⟨i, hi, hz, hs, hb⟩ := info_slz
  exact ⟨i, hi, hz, hs, hb, rfl⟩⟩
/-- a bag's cells, lists of bytes alone in it -/
def bagL (v : Value) : List Value := List.replicate 5 (.slice none 0 0) ++ v :: List.replicate 18 (.slice none 0 0)
theorem bagL_five (v : Value) : (bagL v)[5]? = some v := rfl
theorem bagL_set (u v : Value) : (bagL u).set 5 v = bagL v := rfl
theorem bagL_nil (v : Value) (i : Nat) (h : i < 24) (h5 : i ≠ 5) : (bagL v)[i]? = some (.slice none 0 0) := by
  unfold bagL
  rcases Nat.lt_or_ge i 5 with h' | h'
  · rw [List.getElem?_append_left (by simpa using h'), List.getElem?_replicate, if_pos h']
  · rw [List.getElem?_append_right (by simpa using h'), List.length_replicate, show i - 5 = (i - 6) + 1 by omega, List.getElem?_cons_succ, List.getElem?_replicate, if_pos (by omega)]
/-- an append to a list of lists of one's own -/
theorem append_list (w : World) (base k : Nat) (v0 l : Value) (rows : List Value) (b : Nat) (hown : w.ownsRow base 22 1 v0 k rows) (hl : w.cell? ⟨b, 0, none⟩ = some l) (h1 : l.oneCell' = true) (hk : k ≤ 100000) (hb : base ≤ w.heap.size) :
    ∃ v' w', (Builtin.append_ #[31, 31] 31 #[v0, .slice (some ⟨b, 0, none⟩) 1 1]).run Tryz.prog w = .ok v' w' ∧ w'.ownsRow base 22 1 v' (k + 1) (rows ++ [l]) ∧ w.grownBy w' v0.ownBlock := by
  obtain ⟨i, hi, hz, hs, hby, hzc⟩ := elt_slz.info
  obtain ⟨v', w', hr, ho, hg, _⟩ := run_append_own w base 31 31 22 i (.slice none 0 0) 1 24 (P := Tryz.prog) elt_slz.sl hi hz hs hby hzc (by decide) v0 k rows hown ⟨b, 0, none⟩ 1 1 [l] rfl (fun j u hu => by
    cases j with
    | zero =>
      have e : (⟨b, 0, none⟩ : Addr).add 0 = ⟨b, 0, none⟩ := by unfold Addr.add; split <;> simp_all
      rw [e, hl]; exact hu
    | succ j => simp at hu) (fun u hu => by simp at hu; subst hu; exact h1) (by unfold maxLen; omega) (by omega) hb
  exact ⟨v', w', hr, ho, hg⟩
set_option maxHeartbeats 1000000 in
theorem put_bytes (w : World) (base B k n c : Nat) (T : TypeId) (hT : T ≠ 22) (v0 : Value) (a : Option Addr) (rows : List Value) (hown : w.ownsRow base 22 1 v0 k rows) (hB : Blk w B T (bagL v0)) (hk : k ≤ 100000) (hb : base ≤ w.heap.size) :
    Calls Tryz.prog 32 #[.pointer (some ⟨B, 0, none⟩), .slice a n c] w fun e w' => (∃ r, e = .returned r) ∧ ∃ v', w'.ownsRow base 22 1 v' (k + 1) (rows ++ [.slice a n c]) ∧ Blk w' B T (bagL v') ∧ Kb (fun i => i = B ∨ v0.ownBlock = some i) w w' := by
  have apart : ∀ (W : World) (v : Value) (j : Nat) (rs : List Value) (u : Value), W.ownsRow base 22 1 v j rs → Blk W B T (bagL u) → some B ≠ v.ownBlock := by
    intro W v j rs u ho hb e
    rcases ho.2 with ⟨h0, _⟩ | ⟨g, c, cur, e1, _, hg, _⟩
    · rw [h0] at e; cases e
    · rw [e1] at e
      have e2 : B = g := by simpa [Value.ownBlock] using e
      subst e2
      unfold Blk at hb
      rw [hb] at hg
      cases hg
      exact hT rfl
  have hgb := World.grownBy_alloc w (.cells #[.slice a n c] 22) none
  obtain ⟨v', w4, hap, ho4, hg4⟩ := append_list (w.alloc (.cells #[.slice a n c] 22)) base k v0 (.slice a n c) rows w.heap.size (hown.alloc _) ((Blk.new w [.slice a n c] 22).cell rfl) rfl hk (Nat.le_trans hb hgb.size)
  have hbv := apart w v0 k rows v0 hown hB
  have hB4 : Blk w4 B T (bagL v0) := (hB.alloc _).grown hg4 hbv
  have hbv4 := apart w4 v' (k + 1) _ v0 ho4 hB4
  obtain ⟨g, c', rfl, _⟩ := own_some ho4 (by omega)
  have c5 := hB.cell (bagL_five v0)
  have c54 := hB4.cell (bagL_five v0)
  have f5 := hB4.free 5
  have hgs : w4.grownBy (w4.setCell ⟨B, 5, none⟩ (.slice (some ⟨g, 0, none⟩) (k + 1) c')) (some B) := gb_set (gb_refl _ (some B)) 5 _
  have hB5 := hB4.set 5 (.slice (some ⟨g, 0, none⟩) (k + 1) c')
  rw [bagL_set] at hB5
  have ho5 := ho4.kept hgs (Or.inr (fun e => hbv4 e.symm))
  have hK : Kb (fun i => i = B ∨ v0.ownBlock = some i) w (w4.setCell ⟨B, 5, none⟩ (.slice (some ⟨g, 0, none⟩) (k + 1) c')) :=
    kb_then (kb_then (kb_stay (kb_refl _ _) hgb) hg4 (fun r e => Or.inl (Or.inr e))) hgs (fun r e => Or.inl (Or.inl (by cases e; rfl)))
  have HI := Lib.hid (And.intro ho5 (And.intro hB5 hK)); clear ho5 hB5 hK hgs hbv4 hB4 hbv ho4 hg4 hgb hB apart
  obtain ⟨a0, c0, rfl⟩ : ∃ a0 c0, v0 = .slice a0 k c0 := by
    rcases own_shape hown with ⟨rfl, rfl⟩ | ⟨g, c, rfl⟩
    · exact ⟨_, _, rfl⟩
    · exact ⟨_, _, rfl⟩
  clear hown
  go_enter Tryz.func32, Tryz.ntmps32
  go_wp2_with (at_builtin; refine wpList_append_run rfl (.tmp 8) (.tmp 10) 31 rfl rfl _ _ rfl rfl _ _ hap ?_)
  go_end0
  exact ⟨⟨_, rfl⟩, _, HI.out⟩
end Go.Proofs.YtmnlidfalhjghaaGreatDoor

/- The kit's flatBytes, walked: marks laid. -/
namespace Go.Proofs.YtmnlidfalhjghaaGreatDoor
open Go.RowKit Ow

set_option maxRecDepth 100000 in
set_option maxHeartbeats 4000000 in
theorem flatB_any {f : Nat → Nat → Nat} (hf : Marks f) (V : Lists) (m LB C : Nat) (xs : Nat → List Value) (w : World) (hm : m ≤ 70000) (hC : m ≤ C) (hC2 : C < 9223372036854775808) (hV : V.Apart m LB w.heap.size) (hO : Owns w V m xs) (hL : ListAt w LB V m) :
    Calls Tryz.prog 49 #[.slice (some ⟨LB, 0, none⟩) m C] w fun e w' => e = .returned (.bool true) ∧ FlatAt V m LB w w' (fun j => mkV f j (V.n j)) := by
  have HL := Lib.hid (fun j hj => (by have := (hO j hj).1; omega) : ∀ j, j < m → (xs j).length = V.n j)
  have hF : FlatAt V m LB w w (rowAt f V xs 0 0) := ⟨hO.congr (fun j _ => (rowAt_start f V xs j).symm), hL, kb_refl _ _⟩
  have HF := Lib.hid hf; clear hf
  have HV := Lib.hid hV; clear hV
  have H0 := Lib.hid hF; clear hF hO hL
  go_enter Tryz.func49, Tryz.ntmps49
  go_wp2_with fail
  go_loopw [3] (fun i wr => ∃ k : Nat, k ≤ m ∧ i = .int .i64 k ∧ FlatAt V m LB w wr (rowAt f V xs k 0)) (fun i _ => m - (intOf i).toNat)
  case atStart => exact ⟨0, by omega, rfl, H0.out⟩
  case round =>
    obtain ⟨k, hk, rfl, hR⟩ := hrel
    by_cases hlt : k < m
    · have i1 : (k : Int) < (m : Int) := by omega
      have HR := Lib.hid hR; clear hR
      go_wp2_with fail
      go_loopw [4] (fun i wr => ∃ j : Nat, j ≤ V.n k ∧ i = .int .i64 j ∧ FlatAt V m LB w wr (rowAt f V xs k j)) (fun i _ => V.n k - (intOf i).toNat)
      case atStart => exact ⟨0, by omega, rfl, HR.out⟩
      case round =>
        obtain ⟨j, hj, rfl, hR2⟩ := hrel
        have kc := hR2.at hlt
        by_cases hjn : j < V.n k
        · obtain ⟨g, hA, hg⟩ := hR2.own.some hlt (by omega)
          have hset := hR2.set HV.out hlt (by rw [HL.out k hlt]; exact hjn) hA
          have hfr := hR2.free (i := j) hlt hA
          obtain ⟨u, hu⟩ := hR2.old hlt (by rw [HL.out k hlt]; exact hjn) hA
          have hsm := HV.out.small k hlt
          rw [hA] at kc
          have HI := Lib.hid (And.intro hset hg); clear hset hg hA hR2
          have hmb := fun W => HF.out.run k j k j W rfl rfl (by omega) (by omega)
          generalize hnk : V.n k = nk at *
          generalize V.C k = ck at *
          have HN := Lib.hid hnk; clear hnk
          generalize hy : f k j = y at *
          have HY := Lib.hid hy; clear hy
          have HMB := Lib.hid hmb; clear hmb
          have i2 : (j : Int) < (nk : Int) := by omega
          unfold u8N at HI
          go_wp2_with fail
          go_region_with (go_at_call 23; refine (HMB.out _).mono ?_; rintro e w' ⟨rfl, rfl⟩)
          all_goals go_wp2
          all_goals go_roundw
          case rel => exact ⟨j + 1, hjn, by go_num, HI.out.1.drew 1⟩
          case measure => simp [intOf]; omega
          case rel => exact ⟨j + 1, hjn, by go_num, HI.out.1.drew 1⟩
          case measure => simp [intOf]; omega
        · obtain rfl : j = V.n k := by omega
          have hR3 := hR2.congr (fun j _ => rowAt_next f V xs k j (HL.out k hlt))
          have HI := Lib.hid hR3; clear hR3 hR2
          generalize hnk : V.n k = nk at *
          generalize V.C k = ck at *
          have HN := Lib.hid hnk; clear hnk
          go_wp2_with fail
          go_roundw
          case rel => exact ⟨k + 1, hlt, by go_num, HI.out⟩
          case measure => simp [intOf]; omega
    · obtain rfl : k = m := by omega
      have hR1 := hR.congr (r' := fun j => mkV f j (V.n j)) (fun j hj => rowAt_end f V xs k j hj)
      have hLB := H0.out.list.lt
      obtain ⟨w3, hmk, hg3, hs3, hb3⟩ := make_nils k wr (by omega)
      have hF3 : Filed f V k LB wr.heap.size w w3 (fun j => mkV f j (V.n j)) (fun _ => .slice none 0 0) 0 := ⟨hR1.stay hg3, by rw [filed_start]; exact hb3, fun j hj => by omega⟩
      have hGB : w.heap.size ≤ wr.heap.size := hR1.kept.size
      generalize hB : wr.heap.size = GB at *
      have HG := Lib.hid (And.intro hGB hLB); clear hGB hLB hg3 hs3 hb3 hB hR hR1
      have H3 := Lib.hid hF3; clear hF3
      go_wp2_with fail
      clear hmk
      go_loopw [6] (fun i wr => ∃ (k' : Nat) (vs : Nat → Value), k' ≤ k ∧ i = .int .i64 k' ∧ Filed f V k LB GB w wr (fun j => mkV f j (V.n j)) vs k') (fun i _ => k - (intOf i).toNat)
      case atStart => exact ⟨0, _, by omega, rfl, H3.out⟩
      case round =>
        clear H3
        obtain ⟨q, vs, hq, rfl, hR⟩ := hrel
        by_cases hlt : q < k
        · have i1 : (q : Int) < (k : Int) := by omega
          have kc := hR.flat.at hlt
          have hsm := HV.out.small q hlt
          have HR := Lib.hid hR; clear hR
          go_wp2_with fail
          go_loopw [7, 8] (fun v i wr2 => ∃ t : Nat, t ≤ 64 ∧ i = .int .i64 t ∧ FlatAt V k LB w wr2 (fun j => mkV f j (V.n j)) ∧ Kb (fun i => V.g q = some i) wr wr2 ∧ wr2.ownsRow 0 5 1 v (V.n q + t) (mkV f q (V.n q + t)) ∧ Grew V q wr.heap.size (V.n q + t) v) (fun _ i _ => 64 - (intOf i).toNat)
          case atStart => exact ⟨0, by omega, rfl, HR.out.flat, kb_refl _ _, HR.out.flat.own q hlt, Or.inl rfl⟩
          case round =>
            obtain ⟨t, ht, rfl, hF2, hK2, ho2, hg2⟩ := hrel
            have kc := hF2.at hlt
            by_cases ht6 : t < 64
            · obtain ⟨y, hy⟩ : ∃ y, y = f q (V.n q + t) := ⟨_, rfl⟩
              have hgb := World.grownBy_alloc wr (.cells #[u8N y] 5) none
              obtain ⟨v', w4, hap, hF4, hK4, ho4, hg4⟩ := flat_append (r := fun j => mkV f j (V.n j)) HV.out HG.out.2 (HR.out.flat.kept.size) (hF2.stay hgb) (kb_stay hK2 hgb) hlt u7 (V.n q + t) _ (by omega) (ho2.alloc _) (mkV_take f q _ _ (by omega)) hg2 ⟨wr.heap.size, 0, none⟩ 1 1 [u8N y] (by omega) rfl (fun j u hu => by
                have hb := Blk.new wr [u8N y] 5
                have hadd : (⟨wr.heap.size, 0, none⟩ : Addr).add j = ⟨wr.heap.size, j, none⟩ := by unfold Addr.add; split <;> simp_all
                rw [hadd]; exact hb.cell hu) (by simp [u8N, Value.oneCell']) (by omega)
              rw [hy, ← mkV_next] at ho4
              have hmb := fun W => HF.out.run q (V.n q + t) q ((V.n q : Int) + (t : Int)) W rfl (by omega) (by omega) (by omega)
              rw [← hy] at hmb
              have HI := Lib.hid (And.intro hF4 (And.intro hK4 (And.intro ho4 (And.intro hg4 hmb)))); clear hF4 hK4 ho4 hg4 hmb hF2 hK2 ho2 hg2 hgb
              have HY := Lib.hid hy; clear hy
              generalize hnk : V.n q = nk at *
              have HN := Lib.hid hnk; clear hnk
              unfold u8N at hap
              have i2 : (t : Int) < 64 := by omega
              go_wp2_with fail
              refine (HI.out.2.2.2.2 wr).mono ?_
              rintro e w5 ⟨rfl, rfl⟩
              go_wp2_with (at_builtin; refine wpList_append_run rfl (.tmp 57) (.tmp 67) 22 rfl rfl _ _ rfl rfl _ _ hap ?_)
              go_roundw
              case rel => exact ⟨t + 1, ht6, by go_num, HI.out.1, HI.out.2.1, HI.out.2.2.1, HI.out.2.2.2.1⟩
              case measure => simp [intOf]; omega
            · obtain rfl : t = 64 := by omega
              obtain ⟨c0, f0, hF4⟩ := HR.out.next HV.out HG.out.2 hlt HG.out.1 hF2 hK2 ho2 hg2
              obtain ⟨g, c, rfl, _⟩ := own_some ho2 (by omega)
              have HI := Lib.hid hF4; clear hF4 hF2 hK2 ho2 hg2
              go_wp2_with fail
              go_roundw
              case rel => exact ⟨q + 1, _, hlt, by go_num, HI.out⟩
              case measure => simp [intOf]; omega
        · obtain rfl : q = k := by omega
          have HR := Lib.hid hR; clear hR
          go_wp2_with fail
          go_loopw [9] (fun i wr => ∃ p : Nat, p ≤ q ∧ i = .int .i64 p ∧ Filed f V q LB GB w wr (fun j => mkV f j (V.n j)) vs q) (fun i _ => q - (intOf i).toNat)
          case atStart => exact ⟨0, by omega, rfl, HR.out⟩
          case round =>
            clear HR
            obtain ⟨p, hp, rfl, hR⟩ := hrel
            by_cases hpq : p < q
            · have i1 : (p : Int) < (q : Int) := by omega
              have HR := Lib.hid hR; clear hR
              go_wp2_with fail
              go_loopw [10] (fun i wr => ∃ j : Nat, j ≤ V.n p + 64 ∧ i = .int .i64 j ∧ Filed f V q LB GB w wr (fun j => mkV f j (V.n j)) vs q) (fun i _ => V.n p + 64 - (intOf i).toNat)
              case atStart => exact ⟨0, by omega, rfl, HR.out⟩
              case round =>
                clear HR
                obtain ⟨j, hj, rfl, hR⟩ := hrel
                have kc := hR.flat.at hpq
                have hsm := HV.out.small p hpq
                have HR := Lib.hid hR; clear hR
                obtain ⟨g, c, hvs, kg, kj, hnc⟩ := HR.out.at hpq
                have kj1 := kj j
                clear kj
                by_cases hj1 : j < V.n p + 64
                · have kj2 := kj1 hj1
                  clear kj1
                  have hmb := fun W => HF.out.run p j p j W rfl rfl (by omega) (by omega)
                  by_cases hjn : j < V.n p
                  · obtain ⟨g2, hA, kk⟩ := HR.out.flat.mark hpq hjn
                    rw [hA] at kc
                    clear hA
                    generalize f p j = y at *
                    generalize V.n p = np at *
                    generalize V.C p = cp at *
                    have i2 : (j : Int) < (np : Int) := by omega
                    have i3 : (j : Int) < (np : Int) + 64 := by omega
                    unfold u8N at kk kj2
                    have HMB := Lib.hid hmb; clear hmb
                    go_wp2_with fail
                    go_quiet ((go_at_call 23; exact Calls.quiet_of_same (HMB.out _)))
                    go_wp2_with fail
                    go_roundw
                    case rel => exact ⟨j + 1, hj1, by go_num, HR.out.drew nq⟩
                    case measure => simp [intOf]; omega
                  · generalize f p j = y at *
                    generalize V.n p = np at *
                    generalize V.C p = cp at *
                    have i2 : ¬ (j : Int) < (np : Int) := by omega
                    have i3 : (j : Int) < (np : Int) + 64 := by omega
                    unfold u8N at kj2
                    have HMB := Lib.hid hmb; clear hmb
                    go_wp2_with fail
                    go_quiet ((go_at_call 23; exact Calls.quiet_of_same (HMB.out _)))
                    go_wp2_with fail
                    go_roundw
                    case rel => exact ⟨j + 1, hj1, by go_num, HR.out.drew nq⟩
                    case measure => simp [intOf]; omega
                · clear kj1
                  obtain rfl : j = V.n p + 64 := by omega
                  generalize V.n p = np at *
                  generalize V.C p = cp at *
                  go_wp2_with fail
                  go_roundw
                  case rel => exact ⟨p + 1, hpq, by go_num, HR.out⟩
                  case measure => simp [intOf]; omega
            · obtain rfl : p = q := by omega
              have HR := Lib.hid (hR.again (Nat.le_refl _)); clear hR
              go_wp2_with fail
              go_loopw [11] (fun i wr => ∃ (q : Nat) (L : List Value), q ≤ p ∧ i = .int .i64 q ∧ Again f V p LB GB w wr (fun j => mkV f j (V.n j)) L q) (fun i _ => p - (intOf i).toNat)
              case atStart => exact ⟨0, _, by omega, rfl, HR.out⟩
              case round =>
                clear HR
                obtain ⟨q, L, hq, rfl, hR⟩ := hrel
                by_cases hqp : q < p
                · have i1 : (q : Int) < (p : Int) := by omega
                  obtain ⟨w3, hmk0, hg3, hs3, hb3⟩ := make_bytes 64 64 wr (by omega) (by omega)
                  have hmk : (Instr.makeSlice 22 (.int .i64 64) (.int .i64 64)).run Tryz.prog wr = .ok (.slice (some ⟨wr.heap.size, 0, none⟩) 64 64) w3 := hmk0
                  clear hmk0
                  generalize hB : wr.heap.size = MB at *
                  have HR := Lib.hid (And.intro hR hB); clear hR hB
                  have H3 := Lib.hid (And.intro hg3 hb3); clear hg3 hb3 hs3
                  go_wp2_with fail
                  clear hmk
                  go_loopw [13] (fun i wr2 => ∃ j : Nat, j ≤ 64 ∧ i = .int .i64 j ∧ wr.grownBy wr2 none ∧ Blk wr2 MB 5 (amid f (q + p) j (List.replicate 64 (u8N 0)))) (fun i _ => 64 - (intOf i).toNat)
                  case atStart => exact ⟨0, by omega, rfl, H3.out.1, by rw [amid_start]; exact H3.out.2⟩
                  case round =>
                    clear H3
                    obtain ⟨j, hj, rfl, hg, hb⟩ := hrel
                    by_cases hj6 : j < 64
                    · have hmb := fun W => HF.out.run (q + p) j ((q : Int) + (p : Int)) j W (by omega) rfl (by omega) (by omega)
                      have hset := hb.set j (u8N (f (q + p) j))
                      rw [amid_set _ _ _ _ (by simpa using hj6)] at hset
                      obtain ⟨u, hu⟩ := hb.get (amid_get f (q + p) j (List.replicate 64 (u8N 0)) (by simpa using hj6))
                      have hfr := hb.free j
                      have hgs := gb_set_new hg (p := ⟨MB, j, none⟩) (by rw [HR.out.2]; exact Nat.le_refl _) (u8N (f (q + p) j))
                      generalize f (q + p) j = y at *
                      have HI := Lib.hid (And.intro hset (And.intro hgs hmb)); clear hset hgs hmb hg hb
                      unfold u8N at HI
                      have i2 : (j : Int) < 64 := by omega
                      go_wp2_with fail
                      refine (HI.out.2.2 wr).mono ?_
                      rintro e w5 ⟨rfl, rfl⟩
                      go_wp2_with fail
                      go_roundw
                      case rel => exact ⟨j + 1, hj6, by go_num, HI.out.2.1, HI.out.1⟩
                      case measure => simp [intOf]; omega
                    · obtain rfl : j = 64 := by omega
                      rw [amid_end _ _ _ _ (by simp)] at hb
                      have hA := HR.out.1.stay hg
                      have kc := hA.flat.at hqp
                      have hsm := HV.out.small q hqp
                      obtain ⟨v', w4, hap, hF4, hK4, ho4, hg4⟩ := flat_append (r := fun j => mkV f j (V.n j)) HV.out HG.out.2 (HR.out.1.flat.kept.size) hA.flat (kb_stay (kb_refl _ _) hg) hqp (V.v q) (V.n q) _ (Nat.le_refl _) (hA.flat.own q hqp) (by rw [List.take_of_length_le (by rw [mkV_length]; exact Nat.le_refl _)]) (Or.inl rfl) ⟨MB, 0, none⟩ 64 64 (mkV f (q + p) 64) (by omega) (mkV_length _ _ _) (fun j u hu => by
                        have hadd : (⟨MB, 0, none⟩ : Addr).add j = ⟨MB, j, none⟩ := by unfold Addr.add; split <;> simp_all
                        rw [hadd]; exact hb.cell hu) (mkV_one _ _ _) (by omega)
                      obtain ⟨c0, f0, hA4⟩ := HR.out.1.next HV.out HG.out.2 hqp HG.out.1 hF4 hK4 ho4 hg4
                      obtain ⟨u, hu⟩ := c0
                      obtain ⟨g, c, rfl, _⟩ := own_some ho4 (by omega)
                      have HI := Lib.hid hA4; clear hA4 hF4 hK4 ho4 hg4 hA hb hg
                      unfold Lists.v at hap
                      go_wp2_with (at_builtin; refine wpList_append_run rfl (.tmp 148) (.tmp 149) 22 rfl rfl _ _ rfl rfl _ _ hap ?_)
                      go_roundw
                      case rel => exact ⟨q + 1, _, hqp, by go_num, HI.out⟩
                      case measure => simp [intOf]; omega
                · obtain rfl : q = p := by omega
                  have HR := Lib.hid hR; clear hR
                  go_wp2_with fail
                  go_loopw [14] (fun i wr => ∃ p : Nat, p ≤ q ∧ i = .int .i64 p ∧ Again f V q LB GB w wr (fun j => mkV f j (V.n j)) L q) (fun i _ => q - (intOf i).toNat)
                  case atStart => exact ⟨0, by omega, rfl, HR.out⟩
                  case round =>
                    clear HR
                    obtain ⟨p, hp, rfl, hR⟩ := hrel
                    by_cases hpq : p < q
                    · have i1 : (p : Int) < (q : Int) := by omega
                      have HR := Lib.hid hR; clear hR
                      go_wp2_with fail
                      go_loopw [15] (fun i wr => ∃ j : Nat, j ≤ V.n p ∧ i = .int .i64 j ∧ Again f V q LB GB w wr (fun j => mkV f j (V.n j)) L q) (fun i _ => V.n p - (intOf i).toNat)
                      case atStart => exact ⟨0, by omega, rfl, HR.out⟩
                      case round =>
                        clear HR
                        obtain ⟨j, hj, rfl, hR⟩ := hrel
                        have kc := hR.flat.at hpq
                        have hsm := HV.out.small p hpq
                        have HR := Lib.hid hR; clear hR
                        obtain ⟨g, c, kg, kj, hnc⟩ := HR.out.at hpq
                        have kj1 := kj j
                        clear kj
                        by_cases hjn : j < V.n p
                        · have kj2 := kj1 hjn
                          clear kj1
                          have hmb := fun W => HF.out.run p j p j W rfl rfl (by omega) (by omega)
                          obtain ⟨g2, hA, kk⟩ := HR.out.flat.mark hpq hjn
                          rw [hA] at kc
                          clear hA
                          generalize f p j = y at *
                          generalize V.n p = np at *
                          generalize V.C p = cp at *
                          have i2 : (j : Int) < (np : Int) := by omega
                          have i3 : (j : Int) < (np : Int) + 64 := by omega
                          unfold u8N at kk kj2
                          have HMB := Lib.hid hmb; clear hmb
                          go_wp2_with fail
                          go_quiet ((go_at_call 23; exact Calls.quiet_of_same (HMB.out _)))
                          go_wp2_with fail
                          go_roundw
                          case rel => exact ⟨j + 1, hjn, by go_num, HR.out.drew nq⟩
                          case measure => simp [intOf]; omega
                        · clear kj1
                          obtain rfl : j = V.n p := by omega
                          generalize V.n p = np at *
                          generalize V.C p = cp at *
                          go_wp2_with fail
                          go_roundw
                          case rel => exact ⟨p + 1, hpq, by go_num, HR.out⟩
                          case measure => simp [intOf]; omega
                    · obtain rfl : p = q := by omega
                      have HR := Lib.hid hR.flat; clear hR
                      go_wp2
                      go_ret
                      exact ⟨rfl, HR.out⟩
end Go.Proofs.YtmnlidfalhjghaaGreatDoor

/- The kit's flat..: of no list, true. (gen_nils.py) -/
namespace Go.Proofs.YtmnlidfalhjghaaGreatDoor
open Go.RowKit Ow

theorem make_none (st e : TypeId) (hu : Tryz.prog.underlying st = some (.slice e)) (hi : (Tryz.prog.info? e).map (fun i => i.zero.isSome) = some true) (w : World) : ∃ w', (Instr.makeSlice st (.int .i64 0) (.int .i64 0)).run Tryz.prog w = .ok (.slice (some ⟨w.heap.size, 0, none⟩) 0 0) w' ∧ w.grownBy w' none := by
  obtain ⟨i, hi1, hi2⟩ : ∃ i, Tryz.prog.info? e = some i ∧ i.zero.isSome = true := by
    cases h : Tryz.prog.info? e with
    | none => rw [h] at hi; cases hi
    | some i => rw [h] at hi; exact ⟨i, rfl, by simpa using hi⟩
  obtain ⟨z, hz⟩ := Option.isSome_iff_exists.1 hi2
  have h2 := run_make (P := Tryz.prog) w st e i z hu hi1 hz .i64 .i64 0 0 (by omega) (by omega) (by omega) (by omega)
  exact ⟨_, h2, gb_alloc (gb_refl _ _) _⟩

set_option maxRecDepth 100000 in
set_option maxHeartbeats 4000000 in
theorem flatLimbs_nil (w : World) : Calls Tryz.prog 44 #[.slice none 0 0] w fun e w' => e = .returned (.bool true) ∧ w.grownBy w' none := by
  go_enter Tryz.func44, Tryz.ntmps44
  go_wp2
  go_loopw [3] (fun i wr => i = .int .i64 0 ∧ w.grownBy wr none) (fun _ _ => 0)
  case atStart => exact ⟨rfl, gb_refl _ _⟩
  obtain ⟨rfl, hg⟩ := hrel
  obtain ⟨w2, hmk, hg2⟩ := make_none 55 123 Tryz.underlying55 (by kernel_rfl) wr
  have hg3 := gb_trans hg hg2
  go_wp2
  go_loopw [6] (fun i wr => i = .int .i64 0 ∧ w.grownBy wr none) (fun _ _ => 0)
  case atStart => exact ⟨rfl, hg3⟩
  obtain ⟨rfl, hg⟩ := hrel
  go_wp2
  go_loopw [9] (fun i wr => i = .int .i64 0 ∧ w.grownBy wr none) (fun _ _ => 0)
  case atStart => exact ⟨rfl, hg⟩
  obtain ⟨rfl, hg⟩ := hrel
  go_wp2
  go_loopw [11] (fun i wr => i = .int .i64 0 ∧ w.grownBy wr none) (fun _ _ => 0)
  case atStart => exact ⟨rfl, hg⟩
  obtain ⟨rfl, hg⟩ := hrel
  go_wp2
  go_loopw [14] (fun i wr => i = .int .i64 0 ∧ w.grownBy wr none) (fun _ _ => 0)
  case atStart => exact ⟨rfl, hg⟩
  obtain ⟨rfl, hg⟩ := hrel
  go_wp2
  go_ret
  exact ⟨rfl, hg⟩
set_option maxRecDepth 100000 in
set_option maxHeartbeats 4000000 in
theorem flatWords_nil (w : World) : Calls Tryz.prog 45 #[.slice none 0 0] w fun e w' => e = .returned (.bool true) ∧ w.grownBy w' none := by
  go_enter Tryz.func45, Tryz.ntmps45
  go_wp2
  go_loopw [3] (fun i wr => i = .int .i64 0 ∧ w.grownBy wr none) (fun _ _ => 0)
  case atStart => exact ⟨rfl, gb_refl _ _⟩
  obtain ⟨rfl, hg⟩ := hrel
  obtain ⟨w2, hmk, hg2⟩ := make_none 56 87 Tryz.underlying56 (by kernel_rfl) wr
  have hg3 := gb_trans hg hg2
  go_wp2
  go_loopw [6] (fun i wr => i = .int .i64 0 ∧ w.grownBy wr none) (fun _ _ => 0)
  case atStart => exact ⟨rfl, hg3⟩
  obtain ⟨rfl, hg⟩ := hrel
  go_wp2
  go_loopw [9] (fun i wr => i = .int .i64 0 ∧ w.grownBy wr none) (fun _ _ => 0)
  case atStart => exact ⟨rfl, hg⟩
  obtain ⟨rfl, hg⟩ := hrel
  go_wp2
  go_loopw [11] (fun i wr => i = .int .i64 0 ∧ w.grownBy wr none) (fun _ _ => 0)
  case atStart => exact ⟨rfl, hg⟩
  obtain ⟨rfl, hg⟩ := hrel
  go_wp2
  go_loopw [14] (fun i wr => i = .int .i64 0 ∧ w.grownBy wr none) (fun _ _ => 0)
  case atStart => exact ⟨rfl, hg⟩
  obtain ⟨rfl, hg⟩ := hrel
  go_wp2
  go_ret
  exact ⟨rfl, hg⟩
set_option maxRecDepth 100000 in
set_option maxHeartbeats 4000000 in
theorem flatInts_nil (w : World) : Calls Tryz.prog 46 #[.slice none 0 0] w fun e w' => e = .returned (.bool true) ∧ w.grownBy w' none := by
  go_enter Tryz.func46, Tryz.ntmps46
  go_wp2
  go_loopw [3] (fun i wr => i = .int .i64 0 ∧ w.grownBy wr none) (fun _ _ => 0)
  case atStart => exact ⟨rfl, gb_refl _ _⟩
  obtain ⟨rfl, hg⟩ := hrel
  obtain ⟨w2, hmk, hg2⟩ := make_none 57 83 Tryz.underlying57 (by kernel_rfl) wr
  have hg3 := gb_trans hg hg2
  go_wp2
  go_loopw [6] (fun i wr => i = .int .i64 0 ∧ w.grownBy wr none) (fun _ _ => 0)
  case atStart => exact ⟨rfl, hg3⟩
  obtain ⟨rfl, hg⟩ := hrel
  go_wp2
  go_loopw [9] (fun i wr => i = .int .i64 0 ∧ w.grownBy wr none) (fun _ _ => 0)
  case atStart => exact ⟨rfl, hg⟩
  obtain ⟨rfl, hg⟩ := hrel
  go_wp2
  go_loopw [11] (fun i wr => i = .int .i64 0 ∧ w.grownBy wr none) (fun _ _ => 0)
  case atStart => exact ⟨rfl, hg⟩
  obtain ⟨rfl, hg⟩ := hrel
  go_wp2
  go_loopw [14] (fun i wr => i = .int .i64 0 ∧ w.grownBy wr none) (fun _ _ => 0)
  case atStart => exact ⟨rfl, hg⟩
  obtain ⟨rfl, hg⟩ := hrel
  go_wp2
  go_ret
  exact ⟨rfl, hg⟩
set_option maxRecDepth 100000 in
set_option maxHeartbeats 4000000 in
theorem flatLongs_nil (w : World) : Calls Tryz.prog 47 #[.slice none 0 0] w fun e w' => e = .returned (.bool true) ∧ w.grownBy w' none := by
  go_enter Tryz.func47, Tryz.ntmps47
  go_wp2
  go_loopw [3] (fun i wr => i = .int .i64 0 ∧ w.grownBy wr none) (fun _ _ => 0)
  case atStart => exact ⟨rfl, gb_refl _ _⟩
  obtain ⟨rfl, hg⟩ := hrel
  obtain ⟨w2, hmk, hg2⟩ := make_none 58 125 Tryz.underlying58 (by kernel_rfl) wr
  have hg3 := gb_trans hg hg2
  go_wp2
  go_loopw [6] (fun i wr => i = .int .i64 0 ∧ w.grownBy wr none) (fun _ _ => 0)
  case atStart => exact ⟨rfl, hg3⟩
  obtain ⟨rfl, hg⟩ := hrel
  go_wp2
  go_loopw [9] (fun i wr => i = .int .i64 0 ∧ w.grownBy wr none) (fun _ _ => 0)
  case atStart => exact ⟨rfl, hg⟩
  obtain ⟨rfl, hg⟩ := hrel
  go_wp2
  go_loopw [11] (fun i wr => i = .int .i64 0 ∧ w.grownBy wr none) (fun _ _ => 0)
  case atStart => exact ⟨rfl, hg⟩
  obtain ⟨rfl, hg⟩ := hrel
  go_wp2
  go_loopw [14] (fun i wr => i = .int .i64 0 ∧ w.grownBy wr none) (fun _ _ => 0)
  case atStart => exact ⟨rfl, hg⟩
  obtain ⟨rfl, hg⟩ := hrel
  go_wp2
  go_ret
  exact ⟨rfl, hg⟩
set_option maxRecDepth 100000 in
set_option maxHeartbeats 4000000 in
theorem flatTexts_nil (w : World) : Calls Tryz.prog 48 #[.slice none 0 0] w fun e w' => e = .returned (.bool true) ∧ w.grownBy w' none := by
  go_enter Tryz.func48, Tryz.ntmps48
  go_wp2
  go_loopw [3] (fun i wr => i = .int .i64 0 ∧ w.grownBy wr none) (fun _ _ => 0)
  case atStart => exact ⟨rfl, gb_refl _ _⟩
  obtain ⟨rfl, hg⟩ := hrel
  obtain ⟨w2, hmk, hg2⟩ := make_none 59 126 Tryz.underlying59 (by kernel_rfl) wr
  have hg3 := gb_trans hg hg2
  go_wp2
  go_loopw [6] (fun i wr => i = .int .i64 0 ∧ w.grownBy wr none) (fun _ _ => 0)
  case atStart => exact ⟨rfl, hg3⟩
  obtain ⟨rfl, hg⟩ := hrel
  go_wp2
  go_loopw [9] (fun i wr => i = .int .i64 0 ∧ w.grownBy wr none) (fun _ _ => 0)
  case atStart => exact ⟨rfl, hg⟩
  obtain ⟨rfl, hg⟩ := hrel
  go_wp2
  go_loopw [11] (fun i wr => i = .int .i64 0 ∧ w.grownBy wr none) (fun _ _ => 0)
  case atStart => exact ⟨rfl, hg⟩
  obtain ⟨rfl, hg⟩ := hrel
  go_wp2
  go_loopw [14] (fun i wr => i = .int .i64 0 ∧ w.grownBy wr none) (fun _ _ => 0)
  case atStart => exact ⟨rfl, hg⟩
  obtain ⟨rfl, hg⟩ := hrel
  go_wp2
  go_ret
  exact ⟨rfl, hg⟩
set_option maxRecDepth 100000 in
set_option maxHeartbeats 4000000 in
theorem flatBytes_nil (w : World) : Calls Tryz.prog 49 #[.slice none 0 0] w fun e w' => e = .returned (.bool true) ∧ w.grownBy w' none := by
  go_enter Tryz.func49, Tryz.ntmps49
  go_wp2
  go_loopw [3] (fun i wr => i = .int .i64 0 ∧ w.grownBy wr none) (fun _ _ => 0)
  case atStart => exact ⟨rfl, gb_refl _ _⟩
  obtain ⟨rfl, hg⟩ := hrel
  obtain ⟨w2, hmk, hg2⟩ := make_none 31 22 Tryz.underlying31 (by kernel_rfl) wr
  have hg3 := gb_trans hg hg2
  go_wp2
  go_loopw [6] (fun i wr => i = .int .i64 0 ∧ w.grownBy wr none) (fun _ _ => 0)
  case atStart => exact ⟨rfl, hg3⟩
  obtain ⟨rfl, hg⟩ := hrel
  go_wp2
  go_loopw [9] (fun i wr => i = .int .i64 0 ∧ w.grownBy wr none) (fun _ _ => 0)
  case atStart => exact ⟨rfl, hg⟩
  obtain ⟨rfl, hg⟩ := hrel
  go_wp2
  go_loopw [11] (fun i wr => i = .int .i64 0 ∧ w.grownBy wr none) (fun _ _ => 0)
  case atStart => exact ⟨rfl, hg⟩
  obtain ⟨rfl, hg⟩ := hrel
  go_wp2
  go_loopw [14] (fun i wr => i = .int .i64 0 ∧ w.grownBy wr none) (fun _ _ => 0)
  case atStart => exact ⟨rfl, hg⟩
  obtain ⟨rfl, hg⟩ := hrel
  go_wp2
  go_ret
  exact ⟨rfl, hg⟩
set_option maxRecDepth 100000 in
set_option maxHeartbeats 4000000 in
theorem flatTruths_nil (w : World) : Calls Tryz.prog 50 #[.slice none 0 0] w fun e w' => e = .returned (.bool true) ∧ w.grownBy w' none := by
  go_enter Tryz.func50, Tryz.ntmps50
  go_wp2
  go_loopw [3] (fun i wr => i = .int .i64 0 ∧ w.grownBy wr none) (fun _ _ => 0)
  case atStart => exact ⟨rfl, gb_refl _ _⟩
  obtain ⟨rfl, hg⟩ := hrel
  obtain ⟨w2, hmk, hg2⟩ := make_none 33 25 Tryz.underlying33 (by kernel_rfl) wr
  have hg3 := gb_trans hg hg2
  go_wp2
  go_loopw [6] (fun i wr => i = .int .i64 0 ∧ w.grownBy wr none) (fun _ _ => 0)
  case atStart => exact ⟨rfl, hg3⟩
  obtain ⟨rfl, hg⟩ := hrel
  go_wp2
  go_loopw [9] (fun i wr => i = .int .i64 0 ∧ w.grownBy wr none) (fun _ _ => 0)
  case atStart => exact ⟨rfl, hg⟩
  obtain ⟨rfl, hg⟩ := hrel
  go_wp2
  go_loopw [11] (fun i wr => i = .int .i64 0 ∧ w.grownBy wr none) (fun _ _ => 0)
  case atStart => exact ⟨rfl, hg⟩
  obtain ⟨rfl, hg⟩ := hrel
  go_wp2
  go_loopw [14] (fun i wr => i = .int .i64 0 ∧ w.grownBy wr none) (fun _ _ => 0)
  case atStart => exact ⟨rfl, hg⟩
  obtain ⟨rfl, hg⟩ := hrel
  go_wp2
  go_ret
  exact ⟨rfl, hg⟩
set_option maxRecDepth 100000 in
set_option maxHeartbeats 4000000 in
theorem flatRows_nil (w : World) : Calls Tryz.prog 51 #[.slice none 0 0] w fun e w' => e = .returned (.bool true) ∧ w.grownBy w' none := by
  go_enter Tryz.func51, Tryz.ntmps51
  go_wp2
  go_loopw [3] (fun i wr => i = .int .i64 0 ∧ w.grownBy wr none) (fun _ _ => 0)
  case atStart => exact ⟨rfl, gb_refl _ _⟩
  obtain ⟨rfl, hg⟩ := hrel
  obtain ⟨w2, hmk, hg2⟩ := make_none 60 31 Tryz.underlying60 (by kernel_rfl) wr
  have hg3 := gb_trans hg hg2
  go_wp2
  go_loopw [6] (fun i wr => i = .int .i64 0 ∧ w.grownBy wr none) (fun _ _ => 0)
  case atStart => exact ⟨rfl, hg3⟩
  obtain ⟨rfl, hg⟩ := hrel
  go_wp2
  go_loopw [9] (fun i wr => i = .int .i64 0 ∧ w.grownBy wr none) (fun _ _ => 0)
  case atStart => exact ⟨rfl, hg⟩
  obtain ⟨rfl, hg⟩ := hrel
  go_wp2
  go_loopw [11] (fun i wr => i = .int .i64 0 ∧ w.grownBy wr none) (fun _ _ => 0)
  case atStart => exact ⟨rfl, hg⟩
  obtain ⟨rfl, hg⟩ := hrel
  go_wp2
  go_loopw [14] (fun i wr => i = .int .i64 0 ∧ w.grownBy wr none) (fun _ _ => 0)
  case atStart => exact ⟨rfl, hg⟩
  obtain ⟨rfl, hg⟩ := hrel
  go_wp2
  go_ret
  exact ⟨rfl, hg⟩
set_option maxRecDepth 100000 in
set_option maxHeartbeats 4000000 in
theorem flatDots_nil (w : World) : Calls Tryz.prog 52 #[.slice none 0 0] w fun e w' => e = .returned (.bool true) ∧ w.grownBy w' none := by
  go_enter Tryz.func52, Tryz.ntmps52
  go_wp2
  go_loopw [3] (fun i wr => i = .int .i64 0 ∧ w.grownBy wr none) (fun _ _ => 0)
  case atStart => exact ⟨rfl, gb_refl _ _⟩
  obtain ⟨rfl, hg⟩ := hrel
  obtain ⟨w2, hmk, hg2⟩ := make_none 61 129 Tryz.underlying61 (by kernel_rfl) wr
  have hg3 := gb_trans hg hg2
  go_wp2
  go_loopw [6] (fun i wr => i = .int .i64 0 ∧ w.grownBy wr none) (fun _ _ => 0)
  case atStart => exact ⟨rfl, hg3⟩
  obtain ⟨rfl, hg⟩ := hrel
  go_wp2
  go_loopw [9] (fun i wr => i = .int .i64 0 ∧ w.grownBy wr none) (fun _ _ => 0)
  case atStart => exact ⟨rfl, hg⟩
  obtain ⟨rfl, hg⟩ := hrel
  go_wp2
  go_loopw [11] (fun i wr => i = .int .i64 0 ∧ w.grownBy wr none) (fun _ _ => 0)
  case atStart => exact ⟨rfl, hg⟩
  obtain ⟨rfl, hg⟩ := hrel
  go_wp2
  go_loopw [14] (fun i wr => i = .int .i64 0 ∧ w.grownBy wr none) (fun _ _ => 0)
  case atStart => exact ⟨rfl, hg⟩
  obtain ⟨rfl, hg⟩ := hrel
  go_wp2
  go_ret
  exact ⟨rfl, hg⟩
set_option maxRecDepth 100000 in
set_option maxHeartbeats 4000000 in
theorem flatRecords_nil (w : World) : Calls Tryz.prog 53 #[.slice none 0 0] w fun e w' => e = .returned (.bool true) ∧ w.grownBy w' none := by
  go_enter Tryz.func53, Tryz.ntmps53
  go_wp2
  go_loopw [3] (fun i wr => i = .int .i64 0 ∧ w.grownBy wr none) (fun _ _ => 0)
  case atStart => exact ⟨rfl, gb_refl _ _⟩
  obtain ⟨rfl, hg⟩ := hrel
  obtain ⟨w2, hmk, hg2⟩ := make_none 62 133 Tryz.underlying62 (by kernel_rfl) wr
  have hg3 := gb_trans hg hg2
  go_wp2
  go_loopw [6] (fun i wr => i = .int .i64 0 ∧ w.grownBy wr none) (fun _ _ => 0)
  case atStart => exact ⟨rfl, hg3⟩
  obtain ⟨rfl, hg⟩ := hrel
  go_wp2
  go_loopw [9] (fun i wr => i = .int .i64 0 ∧ w.grownBy wr none) (fun _ _ => 0)
  case atStart => exact ⟨rfl, hg⟩
  obtain ⟨rfl, hg⟩ := hrel
  go_wp2
  go_loopw [11] (fun i wr => i = .int .i64 0 ∧ w.grownBy wr none) (fun _ _ => 0)
  case atStart => exact ⟨rfl, hg⟩
  obtain ⟨rfl, hg⟩ := hrel
  go_wp2
  go_loopw [14] (fun i wr => i = .int .i64 0 ∧ w.grownBy wr none) (fun _ _ => 0)
  case atStart => exact ⟨rfl, hg⟩
  obtain ⟨rfl, hg⟩ := hrel
  go_wp2
  go_ret
  exact ⟨rfl, hg⟩
set_option maxRecDepth 100000 in
set_option maxHeartbeats 4000000 in
theorem flatLeaves_nil (w : World) : Calls Tryz.prog 54 #[.slice none 0 0] w fun e w' => e = .returned (.bool true) ∧ w.grownBy w' none := by
  go_enter Tryz.func54, Tryz.ntmps54
  go_wp2
  go_loopw [3] (fun i wr => i = .int .i64 0 ∧ w.grownBy wr none) (fun _ _ => 0)
  case atStart => exact ⟨rfl, gb_refl _ _⟩
  obtain ⟨rfl, hg⟩ := hrel
  obtain ⟨w2, hmk, hg2⟩ := make_none 63 138 Tryz.underlying63 (by kernel_rfl) wr
  have hg3 := gb_trans hg hg2
  go_wp2
  go_loopw [6] (fun i wr => i = .int .i64 0 ∧ w.grownBy wr none) (fun _ _ => 0)
  case atStart => exact ⟨rfl, hg3⟩
  obtain ⟨rfl, hg⟩ := hrel
  go_wp2
  go_loopw [9] (fun i wr => i = .int .i64 0 ∧ w.grownBy wr none) (fun _ _ => 0)
  case atStart => exact ⟨rfl, hg⟩
  obtain ⟨rfl, hg⟩ := hrel
  go_wp2
  go_loopw [11] (fun i wr => i = .int .i64 0 ∧ w.grownBy wr none) (fun _ _ => 0)
  case atStart => exact ⟨rfl, hg⟩
  obtain ⟨rfl, hg⟩ := hrel
  go_wp2
  go_loopw [14] (fun i wr => i = .int .i64 0 ∧ w.grownBy wr none) (fun _ _ => 0)
  case atStart => exact ⟨rfl, hg⟩
  obtain ⟨rfl, hg⟩ := hrel
  go_wp2
  go_ret
  exact ⟨rfl, hg⟩
set_option maxRecDepth 100000 in
set_option maxHeartbeats 4000000 in
theorem flatGrants_nil (w : World) : Calls Tryz.prog 55 #[.slice none 0 0] w fun e w' => e = .returned (.bool true) ∧ w.grownBy w' none := by
  go_enter Tryz.func55, Tryz.ntmps55
  go_wp2
  go_loopw [3] (fun i wr => i = .int .i64 0 ∧ w.grownBy wr none) (fun _ _ => 0)
  case atStart => exact ⟨rfl, gb_refl _ _⟩
  obtain ⟨rfl, hg⟩ := hrel
  obtain ⟨w2, hmk, hg2⟩ := make_none 64 143 Tryz.underlying64 (by kernel_rfl) wr
  have hg3 := gb_trans hg hg2
  go_wp2
  go_loopw [6] (fun i wr => i = .int .i64 0 ∧ w.grownBy wr none) (fun _ _ => 0)
  case atStart => exact ⟨rfl, hg3⟩
  obtain ⟨rfl, hg⟩ := hrel
  go_wp2
  go_loopw [9] (fun i wr => i = .int .i64 0 ∧ w.grownBy wr none) (fun _ _ => 0)
  case atStart => exact ⟨rfl, hg⟩
  obtain ⟨rfl, hg⟩ := hrel
  go_wp2
  go_loopw [11] (fun i wr => i = .int .i64 0 ∧ w.grownBy wr none) (fun _ _ => 0)
  case atStart => exact ⟨rfl, hg⟩
  obtain ⟨rfl, hg⟩ := hrel
  go_wp2
  go_loopw [14] (fun i wr => i = .int .i64 0 ∧ w.grownBy wr none) (fun _ _ => 0)
  case atStart => exact ⟨rfl, hg⟩
  obtain ⟨rfl, hg⟩ := hrel
  go_wp2
  go_ret
  exact ⟨rfl, hg⟩
set_option maxRecDepth 100000 in
set_option maxHeartbeats 4000000 in
theorem flatNodes_nil (w : World) : Calls Tryz.prog 56 #[.slice none 0 0] w fun e w' => e = .returned (.bool true) ∧ w.grownBy w' none := by
  go_enter Tryz.func56, Tryz.ntmps56
  go_wp2
  go_loopw [3] (fun i wr => i = .int .i64 0 ∧ w.grownBy wr none) (fun _ _ => 0)
  case atStart => exact ⟨rfl, gb_refl _ _⟩
  obtain ⟨rfl, hg⟩ := hrel
  obtain ⟨w2, hmk, hg2⟩ := make_none 65 148 Tryz.underlying65 (by kernel_rfl) wr
  have hg3 := gb_trans hg hg2
  go_wp2
  go_loopw [6] (fun i wr => i = .int .i64 0 ∧ w.grownBy wr none) (fun _ _ => 0)
  case atStart => exact ⟨rfl, hg3⟩
  obtain ⟨rfl, hg⟩ := hrel
  go_wp2
  go_loopw [9] (fun i wr => i = .int .i64 0 ∧ w.grownBy wr none) (fun _ _ => 0)
  case atStart => exact ⟨rfl, hg⟩
  obtain ⟨rfl, hg⟩ := hrel
  go_wp2
  go_loopw [11] (fun i wr => i = .int .i64 0 ∧ w.grownBy wr none) (fun _ _ => 0)
  case atStart => exact ⟨rfl, hg⟩
  obtain ⟨rfl, hg⟩ := hrel
  go_wp2
  go_loopw [14] (fun i wr => i = .int .i64 0 ∧ w.grownBy wr none) (fun _ _ => 0)
  case atStart => exact ⟨rfl, hg⟩
  obtain ⟨rfl, hg⟩ := hrel
  go_wp2
  go_ret
  exact ⟨rfl, hg⟩
set_option maxRecDepth 100000 in
set_option maxHeartbeats 4000000 in
theorem flatStubs_nil (w : World) : Calls Tryz.prog 57 #[.slice none 0 0] w fun e w' => e = .returned (.bool true) ∧ w.grownBy w' none := by
  go_enter Tryz.func57, Tryz.ntmps57
  go_wp2
  go_loopw [3] (fun i wr => i = .int .i64 0 ∧ w.grownBy wr none) (fun _ _ => 0)
  case atStart => exact ⟨rfl, gb_refl _ _⟩
  obtain ⟨rfl, hg⟩ := hrel
  obtain ⟨w2, hmk, hg2⟩ := make_none 66 154 Tryz.underlying66 (by kernel_rfl) wr
  have hg3 := gb_trans hg hg2
  go_wp2
  go_loopw [6] (fun i wr => i = .int .i64 0 ∧ w.grownBy wr none) (fun _ _ => 0)
  case atStart => exact ⟨rfl, hg3⟩
  obtain ⟨rfl, hg⟩ := hrel
  go_wp2
  go_loopw [9] (fun i wr => i = .int .i64 0 ∧ w.grownBy wr none) (fun _ _ => 0)
  case atStart => exact ⟨rfl, hg⟩
  obtain ⟨rfl, hg⟩ := hrel
  go_wp2
  go_loopw [11] (fun i wr => i = .int .i64 0 ∧ w.grownBy wr none) (fun _ _ => 0)
  case atStart => exact ⟨rfl, hg⟩
  obtain ⟨rfl, hg⟩ := hrel
  go_wp2
  go_loopw [14] (fun i wr => i = .int .i64 0 ∧ w.grownBy wr none) (fun _ _ => 0)
  case atStart => exact ⟨rfl, hg⟩
  obtain ⟨rfl, hg⟩ := hrel
  go_wp2
  go_ret
  exact ⟨rfl, hg⟩
set_option maxRecDepth 100000 in
set_option maxHeartbeats 4000000 in
theorem flatProofs_nil (w : World) : Calls Tryz.prog 58 #[.slice none 0 0] w fun e w' => e = .returned (.bool true) ∧ w.grownBy w' none := by
  go_enter Tryz.func58, Tryz.ntmps58
  go_wp2
  go_loopw [3] (fun i wr => i = .int .i64 0 ∧ w.grownBy wr none) (fun _ _ => 0)
  case atStart => exact ⟨rfl, gb_refl _ _⟩
  obtain ⟨rfl, hg⟩ := hrel
  obtain ⟨w2, hmk, hg2⟩ := make_none 67 159 Tryz.underlying67 (by kernel_rfl) wr
  have hg3 := gb_trans hg hg2
  go_wp2
  go_loopw [6] (fun i wr => i = .int .i64 0 ∧ w.grownBy wr none) (fun _ _ => 0)
  case atStart => exact ⟨rfl, hg3⟩
  obtain ⟨rfl, hg⟩ := hrel
  go_wp2
  go_loopw [9] (fun i wr => i = .int .i64 0 ∧ w.grownBy wr none) (fun _ _ => 0)
  case atStart => exact ⟨rfl, hg⟩
  obtain ⟨rfl, hg⟩ := hrel
  go_wp2
  go_loopw [11] (fun i wr => i = .int .i64 0 ∧ w.grownBy wr none) (fun _ _ => 0)
  case atStart => exact ⟨rfl, hg⟩
  obtain ⟨rfl, hg⟩ := hrel
  go_wp2
  go_loopw [14] (fun i wr => i = .int .i64 0 ∧ w.grownBy wr none) (fun _ _ => 0)
  case atStart => exact ⟨rfl, hg⟩
  obtain ⟨rfl, hg⟩ := hrel
  go_wp2
  go_ret
  exact ⟨rfl, hg⟩
set_option maxRecDepth 100000 in
set_option maxHeartbeats 4000000 in
theorem flatRoots_nil (w : World) : Calls Tryz.prog 59 #[.slice none 0 0] w fun e w' => e = .returned (.bool true) ∧ w.grownBy w' none := by
  go_enter Tryz.func59, Tryz.ntmps59
  go_wp2
  go_loopw [3] (fun i wr => i = .int .i64 0 ∧ w.grownBy wr none) (fun _ _ => 0)
  case atStart => exact ⟨rfl, gb_refl _ _⟩
  obtain ⟨rfl, hg⟩ := hrel
  obtain ⟨w2, hmk, hg2⟩ := make_none 68 164 Tryz.underlying68 (by kernel_rfl) wr
  have hg3 := gb_trans hg hg2
  go_wp2
  go_loopw [6] (fun i wr => i = .int .i64 0 ∧ w.grownBy wr none) (fun _ _ => 0)
  case atStart => exact ⟨rfl, hg3⟩
  obtain ⟨rfl, hg⟩ := hrel
  go_wp2
  go_loopw [9] (fun i wr => i = .int .i64 0 ∧ w.grownBy wr none) (fun _ _ => 0)
  case atStart => exact ⟨rfl, hg⟩
  obtain ⟨rfl, hg⟩ := hrel
  go_wp2
  go_loopw [11] (fun i wr => i = .int .i64 0 ∧ w.grownBy wr none) (fun _ _ => 0)
  case atStart => exact ⟨rfl, hg⟩
  obtain ⟨rfl, hg⟩ := hrel
  go_wp2
  go_loopw [14] (fun i wr => i = .int .i64 0 ∧ w.grownBy wr none) (fun _ _ => 0)
  case atStart => exact ⟨rfl, hg⟩
  obtain ⟨rfl, hg⟩ := hrel
  go_wp2
  go_ret
  exact ⟨rfl, hg⟩
set_option maxRecDepth 100000 in
set_option maxHeartbeats 4000000 in
theorem flatEvidenceRow_nil (w : World) : Calls Tryz.prog 60 #[.slice none 0 0] w fun e w' => e = .returned (.bool true) ∧ w.grownBy w' none := by
  go_enter Tryz.func60, Tryz.ntmps60
  go_wp2
  go_loopw [3] (fun i wr => i = .int .i64 0 ∧ w.grownBy wr none) (fun _ _ => 0)
  case atStart => exact ⟨rfl, gb_refl _ _⟩
  obtain ⟨rfl, hg⟩ := hrel
  obtain ⟨w2, hmk, hg2⟩ := make_none 69 169 Tryz.underlying69 (by kernel_rfl) wr
  have hg3 := gb_trans hg hg2
  go_wp2
  go_loopw [6] (fun i wr => i = .int .i64 0 ∧ w.grownBy wr none) (fun _ _ => 0)
  case atStart => exact ⟨rfl, hg3⟩
  obtain ⟨rfl, hg⟩ := hrel
  go_wp2
  go_loopw [9] (fun i wr => i = .int .i64 0 ∧ w.grownBy wr none) (fun _ _ => 0)
  case atStart => exact ⟨rfl, hg⟩
  obtain ⟨rfl, hg⟩ := hrel
  go_wp2
  go_loopw [11] (fun i wr => i = .int .i64 0 ∧ w.grownBy wr none) (fun _ _ => 0)
  case atStart => exact ⟨rfl, hg⟩
  obtain ⟨rfl, hg⟩ := hrel
  go_wp2
  go_loopw [14] (fun i wr => i = .int .i64 0 ∧ w.grownBy wr none) (fun _ _ => 0)
  case atStart => exact ⟨rfl, hg⟩
  obtain ⟨rfl, hg⟩ := hrel
  go_wp2
  go_ret
  exact ⟨rfl, hg⟩
set_option maxRecDepth 100000 in
set_option maxHeartbeats 4000000 in
theorem flatFrames_nil (w : World) : Calls Tryz.prog 61 #[.slice none 0 0] w fun e w' => e = .returned (.bool true) ∧ w.grownBy w' none := by
  go_enter Tryz.func61, Tryz.ntmps61
  go_wp2
  go_loopw [3] (fun i wr => i = .int .i64 0 ∧ w.grownBy wr none) (fun _ _ => 0)
  case atStart => exact ⟨rfl, gb_refl _ _⟩
  obtain ⟨rfl, hg⟩ := hrel
  obtain ⟨w2, hmk, hg2⟩ := make_none 70 174 Tryz.underlying70 (by kernel_rfl) wr
  have hg3 := gb_trans hg hg2
  go_wp2
  go_loopw [6] (fun i wr => i = .int .i64 0 ∧ w.grownBy wr none) (fun _ _ => 0)
  case atStart => exact ⟨rfl, hg3⟩
  obtain ⟨rfl, hg⟩ := hrel
  go_wp2
  go_loopw [9] (fun i wr => i = .int .i64 0 ∧ w.grownBy wr none) (fun _ _ => 0)
  case atStart => exact ⟨rfl, hg⟩
  obtain ⟨rfl, hg⟩ := hrel
  go_wp2
  go_loopw [11] (fun i wr => i = .int .i64 0 ∧ w.grownBy wr none) (fun _ _ => 0)
  case atStart => exact ⟨rfl, hg⟩
  obtain ⟨rfl, hg⟩ := hrel
  go_wp2
  go_loopw [14] (fun i wr => i = .int .i64 0 ∧ w.grownBy wr none) (fun _ _ => 0)
  case atStart => exact ⟨rfl, hg⟩
  obtain ⟨rfl, hg⟩ := hrel
  go_wp2
  go_ret
  exact ⟨rfl, hg⟩
set_option maxRecDepth 100000 in
set_option maxHeartbeats 4000000 in
theorem flatPackets_nil (w : World) : Calls Tryz.prog 62 #[.slice none 0 0] w fun e w' => e = .returned (.bool true) ∧ w.grownBy w' none := by
  go_enter Tryz.func62, Tryz.ntmps62
  go_wp2
  go_loopw [3] (fun i wr => i = .int .i64 0 ∧ w.grownBy wr none) (fun _ _ => 0)
  case atStart => exact ⟨rfl, gb_refl _ _⟩
  obtain ⟨rfl, hg⟩ := hrel
  obtain ⟨w2, hmk, hg2⟩ := make_none 71 181 Tryz.underlying71 (by kernel_rfl) wr
  have hg3 := gb_trans hg hg2
  go_wp2
  go_loopw [6] (fun i wr => i = .int .i64 0 ∧ w.grownBy wr none) (fun _ _ => 0)
  case atStart => exact ⟨rfl, hg3⟩
  obtain ⟨rfl, hg⟩ := hrel
  go_wp2
  go_loopw [9] (fun i wr => i = .int .i64 0 ∧ w.grownBy wr none) (fun _ _ => 0)
  case atStart => exact ⟨rfl, hg⟩
  obtain ⟨rfl, hg⟩ := hrel
  go_wp2
  go_loopw [11] (fun i wr => i = .int .i64 0 ∧ w.grownBy wr none) (fun _ _ => 0)
  case atStart => exact ⟨rfl, hg⟩
  obtain ⟨rfl, hg⟩ := hrel
  go_wp2
  go_loopw [14] (fun i wr => i = .int .i64 0 ∧ w.grownBy wr none) (fun _ _ => 0)
  case atStart => exact ⟨rfl, hg⟩
  obtain ⟨rfl, hg⟩ := hrel
  go_wp2
  go_ret
  exact ⟨rfl, hg⟩
set_option maxRecDepth 100000 in
set_option maxHeartbeats 4000000 in
theorem flatEntries_nil (w : World) : Calls Tryz.prog 63 #[.slice none 0 0] w fun e w' => e = .returned (.bool true) ∧ w.grownBy w' none := by
  go_enter Tryz.func63, Tryz.ntmps63
  go_wp2
  go_loopw [3] (fun i wr => i = .int .i64 0 ∧ w.grownBy wr none) (fun _ _ => 0)
  case atStart => exact ⟨rfl, gb_refl _ _⟩
  obtain ⟨rfl, hg⟩ := hrel
  obtain ⟨w2, hmk, hg2⟩ := make_none 72 186 Tryz.underlying72 (by kernel_rfl) wr
  have hg3 := gb_trans hg hg2
  go_wp2
  go_loopw [6] (fun i wr => i = .int .i64 0 ∧ w.grownBy wr none) (fun _ _ => 0)
  case atStart => exact ⟨rfl, hg3⟩
  obtain ⟨rfl, hg⟩ := hrel
  go_wp2
  go_loopw [9] (fun i wr => i = .int .i64 0 ∧ w.grownBy wr none) (fun _ _ => 0)
  case atStart => exact ⟨rfl, hg⟩
  obtain ⟨rfl, hg⟩ := hrel
  go_wp2
  go_loopw [11] (fun i wr => i = .int .i64 0 ∧ w.grownBy wr none) (fun _ _ => 0)
  case atStart => exact ⟨rfl, hg⟩
  obtain ⟨rfl, hg⟩ := hrel
  go_wp2
  go_loopw [14] (fun i wr => i = .int .i64 0 ∧ w.grownBy wr none) (fun _ _ => 0)
  case atStart => exact ⟨rfl, hg⟩
  obtain ⟨rfl, hg⟩ := hrel
  go_wp2
  go_ret
  exact ⟨rfl, hg⟩
set_option maxRecDepth 100000 in
set_option maxHeartbeats 4000000 in
theorem flatHeldRow_nil (w : World) : Calls Tryz.prog 64 #[.slice none 0 0] w fun e w' => e = .returned (.bool true) ∧ w.grownBy w' none := by
  go_enter Tryz.func64, Tryz.ntmps64
  go_wp2
  go_loopw [3] (fun i wr => i = .int .i64 0 ∧ w.grownBy wr none) (fun _ _ => 0)
  case atStart => exact ⟨rfl, gb_refl _ _⟩
  obtain ⟨rfl, hg⟩ := hrel
  obtain ⟨w2, hmk, hg2⟩ := make_none 73 192 Tryz.underlying73 (by kernel_rfl) wr
  have hg3 := gb_trans hg hg2
  go_wp2
  go_loopw [6] (fun i wr => i = .int .i64 0 ∧ w.grownBy wr none) (fun _ _ => 0)
  case atStart => exact ⟨rfl, hg3⟩
  obtain ⟨rfl, hg⟩ := hrel
  go_wp2
  go_loopw [9] (fun i wr => i = .int .i64 0 ∧ w.grownBy wr none) (fun _ _ => 0)
  case atStart => exact ⟨rfl, hg⟩
  obtain ⟨rfl, hg⟩ := hrel
  go_wp2
  go_loopw [11] (fun i wr => i = .int .i64 0 ∧ w.grownBy wr none) (fun _ _ => 0)
  case atStart => exact ⟨rfl, hg⟩
  obtain ⟨rfl, hg⟩ := hrel
  go_wp2
  go_loopw [14] (fun i wr => i = .int .i64 0 ∧ w.grownBy wr none) (fun _ _ => 0)
  case atStart => exact ⟨rfl, hg⟩
  obtain ⟨rfl, hg⟩ := hrel
  go_wp2
  go_ret
  exact ⟨rfl, hg⟩
set_option maxRecDepth 100000 in
set_option maxHeartbeats 4000000 in
theorem flatConfigs_nil (w : World) : Calls Tryz.prog 65 #[.slice none 0 0] w fun e w' => e = .returned (.bool true) ∧ w.grownBy w' none := by
  go_enter Tryz.func65, Tryz.ntmps65
  go_wp2
  go_loopw [3] (fun i wr => i = .int .i64 0 ∧ w.grownBy wr none) (fun _ _ => 0)
  case atStart => exact ⟨rfl, gb_refl _ _⟩
  obtain ⟨rfl, hg⟩ := hrel
  obtain ⟨w2, hmk, hg2⟩ := make_none 74 197 Tryz.underlying74 (by kernel_rfl) wr
  have hg3 := gb_trans hg hg2
  go_wp2
  go_loopw [6] (fun i wr => i = .int .i64 0 ∧ w.grownBy wr none) (fun _ _ => 0)
  case atStart => exact ⟨rfl, hg3⟩
  obtain ⟨rfl, hg⟩ := hrel
  go_wp2
  go_loopw [9] (fun i wr => i = .int .i64 0 ∧ w.grownBy wr none) (fun _ _ => 0)
  case atStart => exact ⟨rfl, hg⟩
  obtain ⟨rfl, hg⟩ := hrel
  go_wp2
  go_loopw [11] (fun i wr => i = .int .i64 0 ∧ w.grownBy wr none) (fun _ _ => 0)
  case atStart => exact ⟨rfl, hg⟩
  obtain ⟨rfl, hg⟩ := hrel
  go_wp2
  go_loopw [14] (fun i wr => i = .int .i64 0 ∧ w.grownBy wr none) (fun _ _ => 0)
  case atStart => exact ⟨rfl, hg⟩
  obtain ⟨rfl, hg⟩ := hrel
  go_wp2
  go_ret
  exact ⟨rfl, hg⟩
set_option maxRecDepth 100000 in
set_option maxHeartbeats 4000000 in
theorem flatSteps_nil (w : World) : Calls Tryz.prog 66 #[.slice none 0 0] w fun e w' => e = .returned (.bool true) ∧ w.grownBy w' none := by
  go_enter Tryz.func66, Tryz.ntmps66
  go_wp2
  go_loopw [3] (fun i wr => i = .int .i64 0 ∧ w.grownBy wr none) (fun _ _ => 0)
  case atStart => exact ⟨rfl, gb_refl _ _⟩
  obtain ⟨rfl, hg⟩ := hrel
  obtain ⟨w2, hmk, hg2⟩ := make_none 75 202 Tryz.underlying75 (by kernel_rfl) wr
  have hg3 := gb_trans hg hg2
  go_wp2
  go_loopw [6] (fun i wr => i = .int .i64 0 ∧ w.grownBy wr none) (fun _ _ => 0)
  case atStart => exact ⟨rfl, hg3⟩
  obtain ⟨rfl, hg⟩ := hrel
  go_wp2
  go_loopw [9] (fun i wr => i = .int .i64 0 ∧ w.grownBy wr none) (fun _ _ => 0)
  case atStart => exact ⟨rfl, hg⟩
  obtain ⟨rfl, hg⟩ := hrel
  go_wp2
  go_loopw [11] (fun i wr => i = .int .i64 0 ∧ w.grownBy wr none) (fun _ _ => 0)
  case atStart => exact ⟨rfl, hg⟩
  obtain ⟨rfl, hg⟩ := hrel
  go_wp2
  go_loopw [14] (fun i wr => i = .int .i64 0 ∧ w.grownBy wr none) (fun _ _ => 0)
  case atStart => exact ⟨rfl, hg⟩
  obtain ⟨rfl, hg⟩ := hrel
  go_wp2
  go_ret
  exact ⟨rfl, hg⟩
set_option maxRecDepth 100000 in
set_option maxHeartbeats 4000000 in
theorem flatTales_nil (w : World) : Calls Tryz.prog 67 #[.slice none 0 0] w fun e w' => e = .returned (.bool true) ∧ w.grownBy w' none := by
  go_enter Tryz.func67, Tryz.ntmps67
  go_wp2
  go_loopw [3] (fun i wr => i = .int .i64 0 ∧ w.grownBy wr none) (fun _ _ => 0)
  case atStart => exact ⟨rfl, gb_refl _ _⟩
  obtain ⟨rfl, hg⟩ := hrel
  obtain ⟨w2, hmk, hg2⟩ := make_none 76 208 Tryz.underlying76 (by kernel_rfl) wr
  have hg3 := gb_trans hg hg2
  go_wp2
  go_loopw [6] (fun i wr => i = .int .i64 0 ∧ w.grownBy wr none) (fun _ _ => 0)
  case atStart => exact ⟨rfl, hg3⟩
  obtain ⟨rfl, hg⟩ := hrel
  go_wp2
  go_loopw [9] (fun i wr => i = .int .i64 0 ∧ w.grownBy wr none) (fun _ _ => 0)
  case atStart => exact ⟨rfl, hg⟩
  obtain ⟨rfl, hg⟩ := hrel
  go_wp2
  go_loopw [11] (fun i wr => i = .int .i64 0 ∧ w.grownBy wr none) (fun _ _ => 0)
  case atStart => exact ⟨rfl, hg⟩
  obtain ⟨rfl, hg⟩ := hrel
  go_wp2
  go_loopw [14] (fun i wr => i = .int .i64 0 ∧ w.grownBy wr none) (fun _ _ => 0)
  case atStart => exact ⟨rfl, hg⟩
  obtain ⟨rfl, hg⟩ := hrel
  go_wp2
  go_ret
  exact ⟨rfl, hg⟩
end Go.Proofs.YtmnlidfalhjghaaGreatDoor

/- The kit's bag, lists of bytes in it alone: apart. (gen_bag.py) -/
namespace Go.Proofs.YtmnlidfalhjghaaGreatDoor
open Go.RowKit Ow

theorem Lists.Apart.mono {V : Lists} {m LB a b : Nat} (h : V.Apart m LB a) (hab : a ≤ b) : V.Apart m LB b := ⟨h.apart, h.ls, fun j hj i e => Nat.lt_of_lt_of_le (h.old j hj i e) hab, h.small⟩
/-- what lies in a bag -/
structure BagB (w : World) (B LB m C : Nat) : Prop where
  lt : B < w.heap.size
  nil : ∀ i, i < 24 → i ≠ 5 → w.cell? ⟨B, i, none⟩ = some (.slice none 0 0)
  five : w.cell? ⟨B, 5, none⟩ = some (.slice (some ⟨LB, 0, none⟩) m C)
theorem BagB.stay {w w' : World} {B LB m C : Nat} (h : BagB w B LB m C) (hg : w.grownBy w' none) : BagB w' B LB m C :=
  ⟨Nat.lt_of_lt_of_le h.lt hg.size, fun i hi h5 => by rw [gb_cell hg h.lt (by simp)]; exact h.nil i hi h5, by rw [gb_cell hg h.lt (by simp)]; exact h.five⟩
theorem BagB.kb {S : Nat → Prop} {w w' : World} {B LB m C : Nat} (h : BagB w B LB m C) (hk : Kb S w w') (hs : ¬ S B) : BagB w' B LB m C :=
  ⟨Nat.lt_of_lt_of_le h.lt hk.size, fun i hi h5 => by rw [hk.cell (p := ⟨B, i, none⟩) h.lt hs]; exact h.nil i hi h5, by rw [hk.cell (p := ⟨B, 5, none⟩) h.lt hs]; exact h.five⟩
theorem FlatAt.from {V : Lists} {m LB : Nat} {w w1 w2 : World} {r : Nat → List Value} (h : FlatAt V m LB w1 w2 r) (hg : w.grownBy w1 none) : FlatAt V m LB w w2 r :=
  ⟨h.own, h.list, kb_trans (kb_stay (kb_refl _ _) hg) h.kept⟩
set_option maxRecDepth 100000 in
set_option maxHeartbeats 4000000 in
theorem apart_bytes {f : Nat → Nat → Nat} (hf : Marks f) (V : Lists) (m LB C B : Nat) (xs : Nat → List Value) (w : World) (hm : m ≤ 70000) (hC : m ≤ C) (hC2 : C < 9223372036854775808) (hV : V.Apart m LB w.heap.size) (hO : Owns w V m xs) (hL : ListAt w LB V m) (hB : BagB w B LB m C) (hBV : ∀ j, j < m → V.g j ≠ some B) :
    Calls Tryz.prog 33 #[.pointer (some ⟨B, 0, none⟩)] w fun e w' => e = .returned (.bool true) ∧ FlatAt V m LB w w' (fun j => mkV f j (V.n j)) := by
  have H := Lib.hid (And.intro hV (And.intro hO (And.intro hL hBV))); clear hV hO hL hBV
  have HF := Lib.hid hf; clear hf
  have HB0 := Lib.hid (And.intro hB (gb_refl w none)); clear hB
  have HM := Lib.hid (And.intro hm (And.intro hC hC2))
  go_enter Tryz.func33, Tryz.ntmps33
  have c := HB0.out.1.nil 0 (by decide) (by decide)
  go_wp2_with fail
  clear c
  refine (flatLimbs_nil _).mono ?_
  rintro e w1 ⟨rfl, h⟩
  have HB1 := Lib.hid (And.intro (HB0.out.1.stay h) (gb_trans HB0.out.2 h)); clear h HB0
  have c := HB1.out.1.nil 1 (by decide) (by decide)
  go_wp2_with fail
  clear c
  refine (flatWords_nil _).mono ?_
  rintro e w2 ⟨rfl, h⟩
  have HB2 := Lib.hid (And.intro (HB1.out.1.stay h) (gb_trans HB1.out.2 h)); clear h HB1
  have c := HB2.out.1.nil 2 (by decide) (by decide)
  go_wp2_with fail
  clear c
  refine (flatInts_nil _).mono ?_
  rintro e w3 ⟨rfl, h⟩
  have HB3 := Lib.hid (And.intro (HB2.out.1.stay h) (gb_trans HB2.out.2 h)); clear h HB2
  have c := HB3.out.1.nil 3 (by decide) (by decide)
  go_wp2_with fail
  clear c
  refine (flatLongs_nil _).mono ?_
  rintro e w4 ⟨rfl, h⟩
  have HB4 := Lib.hid (And.intro (HB3.out.1.stay h) (gb_trans HB3.out.2 h)); clear h HB3
  have c := HB4.out.1.nil 4 (by decide) (by decide)
  go_wp2_with fail
  clear c
  refine (flatTexts_nil _).mono ?_
  rintro e w5 ⟨rfl, h⟩
  have HB5 := Lib.hid (And.intro (HB4.out.1.stay h) (gb_trans HB4.out.2 h)); clear h HB4
  have c := HB5.out.1.five
  go_wp2_with fail
  clear c
  refine (flatB_any HF.out V m LB C xs _ HM.out.1 HM.out.2.1 HM.out.2.2 (H.out.1.mono HB5.out.2.size) (H.out.2.1.stay HB5.out.2) (H.out.2.2.1.grown HB5.out.2 (by simp))).mono ?_
  rintro e w6 ⟨rfl, h⟩
  have HB6 := Lib.hid (And.intro (HB5.out.1.kb h.kept (fun ⟨j, hj, e⟩ => H.out.2.2.2 j hj e)) (h.from HB5.out.2)); clear h HB5
  have c := HB6.out.1.nil 6 (by decide) (by decide)
  go_wp2_with fail
  clear c
  refine (flatTruths_nil _).mono ?_
  rintro e w7 ⟨rfl, h⟩
  have HB7 := Lib.hid (And.intro (HB6.out.1.stay h) (HB6.out.2.stay h)); clear h HB6
  have c := HB7.out.1.nil 7 (by decide) (by decide)
  go_wp2_with fail
  clear c
  refine (flatRows_nil _).mono ?_
  rintro e w8 ⟨rfl, h⟩
  have HB8 := Lib.hid (And.intro (HB7.out.1.stay h) (HB7.out.2.stay h)); clear h HB7
  have c := HB8.out.1.nil 8 (by decide) (by decide)
  go_wp2_with fail
  clear c
  refine (flatDots_nil _).mono ?_
  rintro e w9 ⟨rfl, h⟩
  have HB9 := Lib.hid (And.intro (HB8.out.1.stay h) (HB8.out.2.stay h)); clear h HB8
  have c := HB9.out.1.nil 9 (by decide) (by decide)
  go_wp2_with fail
  clear c
  refine (flatRecords_nil _).mono ?_
  rintro e w10 ⟨rfl, h⟩
  have HB10 := Lib.hid (And.intro (HB9.out.1.stay h) (HB9.out.2.stay h)); clear h HB9
  have c := HB10.out.1.nil 10 (by decide) (by decide)
  go_wp2_with fail
  clear c
  refine (flatLeaves_nil _).mono ?_
  rintro e w11 ⟨rfl, h⟩
  have HB11 := Lib.hid (And.intro (HB10.out.1.stay h) (HB10.out.2.stay h)); clear h HB10
  have c := HB11.out.1.nil 11 (by decide) (by decide)
  go_wp2_with fail
  clear c
  refine (flatGrants_nil _).mono ?_
  rintro e w12 ⟨rfl, h⟩
  have HB12 := Lib.hid (And.intro (HB11.out.1.stay h) (HB11.out.2.stay h)); clear h HB11
  have c := HB12.out.1.nil 12 (by decide) (by decide)
  go_wp2_with fail
  clear c
  refine (flatNodes_nil _).mono ?_
  rintro e w13 ⟨rfl, h⟩
  have HB13 := Lib.hid (And.intro (HB12.out.1.stay h) (HB12.out.2.stay h)); clear h HB12
  have c := HB13.out.1.nil 13 (by decide) (by decide)
  go_wp2_with fail
  clear c
  refine (flatStubs_nil _).mono ?_
  rintro e w14 ⟨rfl, h⟩
  have HB14 := Lib.hid (And.intro (HB13.out.1.stay h) (HB13.out.2.stay h)); clear h HB13
  have c := HB14.out.1.nil 14 (by decide) (by decide)
  go_wp2_with fail
  clear c
  refine (flatProofs_nil _).mono ?_
  rintro e w15 ⟨rfl, h⟩
  have HB15 := Lib.hid (And.intro (HB14.out.1.stay h) (HB14.out.2.stay h)); clear h HB14
  have c := HB15.out.1.nil 15 (by decide) (by decide)
  go_wp2_with fail
  clear c
  refine (flatRoots_nil _).mono ?_
  rintro e w16 ⟨rfl, h⟩
  have HB16 := Lib.hid (And.intro (HB15.out.1.stay h) (HB15.out.2.stay h)); clear h HB15
  have c := HB16.out.1.nil 16 (by decide) (by decide)
  go_wp2_with fail
  clear c
  refine (flatEvidenceRow_nil _).mono ?_
  rintro e w17 ⟨rfl, h⟩
  have HB17 := Lib.hid (And.intro (HB16.out.1.stay h) (HB16.out.2.stay h)); clear h HB16
  have c := HB17.out.1.nil 17 (by decide) (by decide)
  go_wp2_with fail
  clear c
  refine (flatFrames_nil _).mono ?_
  rintro e w18 ⟨rfl, h⟩
  have HB18 := Lib.hid (And.intro (HB17.out.1.stay h) (HB17.out.2.stay h)); clear h HB17
  have c := HB18.out.1.nil 18 (by decide) (by decide)
  go_wp2_with fail
  clear c
  refine (flatPackets_nil _).mono ?_
  rintro e w19 ⟨rfl, h⟩
  have HB19 := Lib.hid (And.intro (HB18.out.1.stay h) (HB18.out.2.stay h)); clear h HB18
  have c := HB19.out.1.nil 19 (by decide) (by decide)
  go_wp2_with fail
  clear c
  refine (flatEntries_nil _).mono ?_
  rintro e w20 ⟨rfl, h⟩
  have HB20 := Lib.hid (And.intro (HB19.out.1.stay h) (HB19.out.2.stay h)); clear h HB19
  have c := HB20.out.1.nil 20 (by decide) (by decide)
  go_wp2_with fail
  clear c
  refine (flatHeldRow_nil _).mono ?_
  rintro e w21 ⟨rfl, h⟩
  have HB21 := Lib.hid (And.intro (HB20.out.1.stay h) (HB20.out.2.stay h)); clear h HB20
  have c := HB21.out.1.nil 21 (by decide) (by decide)
  go_wp2_with fail
  clear c
  refine (flatConfigs_nil _).mono ?_
  rintro e w22 ⟨rfl, h⟩
  have HB22 := Lib.hid (And.intro (HB21.out.1.stay h) (HB21.out.2.stay h)); clear h HB21
  have c := HB22.out.1.nil 22 (by decide) (by decide)
  go_wp2_with fail
  clear c
  refine (flatSteps_nil _).mono ?_
  rintro e w23 ⟨rfl, h⟩
  have HB23 := Lib.hid (And.intro (HB22.out.1.stay h) (HB22.out.2.stay h)); clear h HB22
  have c := HB23.out.1.nil 23 (by decide) (by decide)
  go_wp2_with fail
  clear c
  refine (flatTales_nil _).mono ?_
  rintro e w24 ⟨rfl, h⟩
  have HB24 := Lib.hid (And.intro (HB23.out.1.stay h) (HB23.out.2.stay h)); clear h HB23
  go_wp2
  go_ret
  exact ⟨rfl, HB24.out.2⟩
end Go.Proofs.YtmnlidfalhjghaaGreatDoor

/- The kit's ApartBytes: lists of bytes that lie apart. -/
namespace Go.Proofs.YtmnlidfalhjghaaGreatDoor
open Go.RowKit Ow

set_option maxRecDepth 100000 in
set_option maxHeartbeats 1000000 in
theorem apartB_any {f : Nat → Nat → Nat} (hf : Marks f) (V : Lists) (m L0 C : Nat) (xs : Nat → List Value) (w : World) (hm : m ≤ 70000) (hm0 : 0 < m) (hC : m ≤ C) (hC2 : C < 9223372036854775808) (hV : V.Apart m L0 w.heap.size) (hO : Owns w V m xs) (hL : ListAt w L0 V m) :
    Calls Tryz.prog 17 #[.slice (some ⟨L0, 0, none⟩) m C] w fun e w' => e = .returned (.bool true) ∧ Owns w' V m (fun j => mkV f j (V.n j)) ∧ Kb (V.S m) w w' := by
  have H := Lib.hid (And.intro hV (And.intro hO hL)); clear hV hO hL
  have HF := Lib.hid hf; clear hf
  go_enter Tryz.func17, Tryz.ntmps17
  have hb0 : Blk (w.alloc (.cells (bagL (.slice none 0 0)).toArray 78)) w.heap.size 78 (bagL (.slice none 0 0)) := Blk.new w _ _
  have hg0 := World.grownBy_alloc w (.cells (bagL (.slice none 0 0)).toArray 78) none
  have H1 := Lib.hid (And.intro hb0 hg0); clear hb0 hg0
  generalize hB : w.heap.size = B at H1
  have HB := Lib.hid hB
  go_wp2_with fail
  go_loopw [4] (fun i wr => ∃ (k : Nat) (v : Value), k ≤ m ∧ i = .int .i64 k ∧ wr.ownsRow B 22 1 v k ((List.range k).map V.v) ∧ Blk wr B 78 (bagL v) ∧ w.grownBy wr none) (fun i _ => m - (intOf i).toNat)
  case atStart => exact ⟨0, .slice none 0 0, by omega, rfl, World.ownsRow_nil _ _ _ 1, H1.out.1, H1.out.2⟩
  case round =>
    clear H1 hB
    obtain ⟨k, v, hk, rfl, ho, hb, hg⟩ := hrel
    by_cases hlt : k < m
    · have i1 : (k : Int) < (m : Int) := by omega
      have kc : wr.cell? ⟨L0, k, none⟩ = some (.slice (V.A k) (V.n k) (V.C k)) := (H.out.2.2.grown hg (by simp)).cell hlt
      have hput := put_bytes wr B B k (V.n k) (V.C k) 78 (by decide) v (V.A k) _ ho hb (by omega) (by have := hg.size; have := HB.out; omega)
      have HI := Lib.hid (And.intro hput (And.intro hg ho)); clear hput hg ho hb
      go_wp2_with fail
      refine HI.out.1.mono ?_
      rintro e w5 ⟨⟨r, rfl⟩, v', ho', hb', hK⟩
      have hg' : w.grownBy w5 none := gb_kb HI.out.2.1 hK (fun i hi => by
        have e0 := HB.out
        rcases hi with rfl | hi
        · omega
        · rcases HI.out.2.2.2 with ⟨h0, _⟩ | ⟨g, c, cur, e1, hbg, _⟩
          · rw [h0] at hi; cases hi
          · rw [e1] at hi; have e2 : g = i := by simpa [Value.ownBlock] using hi
            omega)
      rw [show (List.range k).map V.v ++ [Value.slice (V.A k) (V.n k) (V.C k)] = (List.range (k + 1)).map V.v by rw [List.range_succ, List.map_append]; rfl] at ho'
      have HJ := Lib.hid (And.intro ho' (And.intro hb' hg')); clear ho' hb' hg' hK HI
      go_wp2_with fail
      go_roundw
      case rel => exact ⟨k + 1, v', hlt, by go_num, HJ.out⟩
      case measure => simp [intOf]; omega
    · obtain rfl : k = m := by omega
      obtain ⟨g, c, rfl, hbg, hnc, hcm, hlt2⟩ := own_some ho hm0
      have hc63 : c < 9223372036854775808 := by unfold maxLen at hcm; omega
      have hL : ListAt wr g V k := by
        rcases ho.2 with ⟨h0, _⟩ | ⟨g', c', cur, e1, _, hgb, _, _, _, ht⟩
        · cases h0
        · cases e1
          refine ⟨cur.toList.drop (k * 1), ?_⟩
          unfold Blk
          rw [hgb, ← ht, List.take_append_drop, Array.toArray_toList]
      have hV := H.out.1
      have hVg : V.Apart k g wr.heap.size := ⟨hV.apart, fun j hj e => by have := hV.old j hj _ e; have := HB.out; omega, fun j hj i e => Nat.lt_of_lt_of_le (hV.old j hj i e) hg.size, hV.small⟩
      have hap := apart_bytes HF.out V k g c B xs wr hm hnc hc63 hVg (H.out.2.1.stay hg) hL ⟨hb.lt, fun i hi h5 => hb.cell (bagL_nil _ i hi h5), hb.cell (bagL_five _)⟩ (fun j hj e => by have := hV.old j hj _ e; have := HB.out; omega)
      have HI := Lib.hid (And.intro hap hg); clear hap hg hb ho hL hVg hV
      go_wp2_with fail
      refine HI.out.1.mono ?_
      rintro e w5 ⟨rfl, hF⟩
      have HJ := Lib.hid (hF.from HI.out.2); clear hF
      go_wp2
      go_ret
      exact ⟨rfl, HJ.out.own, HJ.out.kept⟩
end Go.Proofs.YtmnlidfalhjghaaGreatDoor

/- A row of one's own, from an elder bound on. -/
namespace Go.Proofs.YtmnlidfalhjghaaGreatDoor
open Go.RowKit Ow
theorem own_down {w : World} {base b' e n : Nat} {v : Value} {xs : List Value} (h : w.ownsRow base e 1 v n xs) (hb : b' ≤ base) : w.ownsRow b' e 1 v n xs := by
  refine ⟨h.1, ?_⟩
  rcases h.2 with h0 | ⟨g', c', cur, e1, hg, rest⟩
  · exact Or.inl h0
  · exact Or.inr ⟨g', c', cur, e1, Nat.le_trans hb hg, rest⟩
/-- what is written to a row of one's own is new, seen from an elder world -/
theorem own_gb {w a b : World} {e n : Nat} {v : Value} {xs : List Value} (hg : w.grownBy a none) (ho : a.ownsRow w.heap.size e 1 v n xs) (h : a.grownBy b v.ownBlock) : w.grownBy b none := by
  rcases ho.2 with ⟨rfl, _⟩ | ⟨g', c', cur, rfl, hb, _⟩
  · exact gb_trans hg h
  · exact gb_then hg h hb
end Go.Proofs.YtmnlidfalhjghaaGreatDoor

/- Lists of bytes of one's own, in a list of one's own: what ApartBytes is asked of. -/
namespace Go.Proofs.YtmnlidfalhjghaaGreatDoor
open Go.RowKit
namespace Ow
/-- where a list lies, its length, its room, what it holds -/
abbrev Rw1 := Option Addr × Nat × Nat × List Value
def rv (p : Rw1) : Value := .slice p.1 p.2.1 p.2.2.1
structure OutAt (w : World) (b0 : Nat) (v : Value) (L : List Rw1) : Prop where
  own : w.ownsRow b0 22 1 v L.length (L.map rv)
  each : ∀ p ∈ L, w.ownsRow b0 5 1 (rv p) p.2.1 p.2.2.2 ∧ p.2.1 ≤ 100000 ∧ ∀ g, (rv p).ownBlock = some g → v.ownBlock ≠ some g
  apart : L.Pairwise fun p q => (rv p).ownBlock = none ∨ (rv p).ownBlock ≠ (rv q).ownBlock
theorem OutAt.nil (w : World) (b0 : Nat) : OutAt w b0 (.slice none 0 0) [] := ⟨World.ownsRow_nil _ _ _ _, fun p hp => (by cases hp), List.Pairwise.nil⟩
theorem OutAt.stay {w w' : World} {b0 : Nat} {v : Value} {L : List Rw1} (h : OutAt w b0 v L) (hg : w.grownBy w' none) : OutAt w' b0 v L :=
  ⟨own_kept h.own hg, fun p hp => ⟨own_kept (h.each p hp).1 hg, (h.each p hp).2⟩, h.apart⟩
theorem OutAt.beside {w w' : World} {b0 T : Nat} {v : Value} {L : List Rw1} (h : OutAt w b0 v L) (hg : w.grownBy w' (some T)) (hT : T < b0) : OutAt w' b0 v L :=
  ⟨h.own.kept hg (Or.inr fun e => by have := (h.own.lt _ e).1; omega), fun p hp => ⟨(h.each p hp).1.kept hg (Or.inr fun e => by have := ((h.each p hp).1.lt _ e).1; omega), (h.each p hp).2⟩, h.apart⟩
theorem OutAt.below {w : World} {b0 : Nat} {v : Value} {L : List Rw1} (h : OutAt w b0 v L) : (∀ g, v.ownBlock = some g → g < w.heap.size) ∧ ∀ p ∈ L, ∀ g, (rv p).ownBlock = some g → g < w.heap.size :=
  ⟨fun g e => (h.own.lt g e).2, fun p hp g e => ((h.each p hp).1.lt g e).2⟩
theorem info_bs' : ∃ i, Tryz.prog.info? 22 = some i ∧ i.zero = some (.slice none 0 0) ∧ i.size = 1 ∧ i.bytes = 24 := by
  have h : (Tryz.prog.info? 22).map (fun i => (i.zero, i.size, i.bytes)) = some (some (.slice none 0 0), 1, 24) := by kernel_rfl
  cases hi : Tryz.prog.info? 22 with
  | none => rw [hi] at h; cases h
  | some i =>
    rw [hi] at h
    simp only [Option.map_some, Option.some.injEq, Prod.mk.injEq] at h
    exact ⟨i, rfl, h.1, h.2.1, h.2.2⟩
/-- rows appended to a list of one's own: its block is the former one, or a new one -/
theorem append_rowsN (w : World) (base n m X : Nat) (v : Value) (xs news : List Value) (hown : w.ownsRow base 22 1 v n xs) (hl : news.length = m) (h0 : 0 < m) (hx : ∀ j u, news[j]? = some u → w.cell? ⟨X, 0 + j, none⟩ = some u) (h1 : ∀ u ∈ news, u.oneCell' = true) (hn : n + m ≤ 1000000000) (hbase : base ≤ w.heap.size) :
    ∃ v' w', (Builtin.append_ #[31, 31] 31 #[v, .slice (some ⟨X, 0, none⟩) m m]).run Tryz.prog w = .ok v' w' ∧ w'.ownsRow base 22 1 v' (n + m) (xs ++ news) ∧ w.grownBy w' v.ownBlock ∧ ∀ g, v'.ownBlock = some g → v.ownBlock = some g ∨ w.heap.size ≤ g := by
  obtain ⟨i, hi, hz, hs, hb⟩ := info_bs'
  have hnews : ∀ j u, news[j]? = some u → w.cell? ((⟨X, 0, none⟩ : Addr).add j) = some u := fun j u hu => by rw [Addr.add_lit]; exact hx j u hu
  have hl1 : news.length = m * 1 := by omega
  obtain ⟨v', w', hr, ho, hg, _⟩ := run_append_own (P := Tryz.prog) w base 31 31 22 i (.slice none 0 0) 1 24 Tryz.underlying31 hi hz hs hb rfl (by decide) v n xs hown ⟨X, 0, none⟩ m m news hl1 hnews h1 (by unfold maxLen; omega) (by omega) hbase
  refine ⟨v', w', hr, ho, hg, fun g e => ?_⟩
  rcases hown.2 with ⟨rfl, h0'⟩ | ⟨g0, cap, cur, rfl, hbg, hgg, hnc, hcm, hcs, ht⟩
  · have hr2 := run_append_nil (P := Tryz.prog) w 31 31 22 i (.slice none 0 0) Tryz.underlying31 hi hz ⟨X, 0, none⟩ m m news (by rw [hs]; exact hl1) hnews h0 (by omega) (by rw [hb]; omega)
    rw [hr] at hr2
    simp only [Result.ok.injEq] at hr2
    rw [hr2.1] at e
    simp only [Value.ownBlock, Option.some.injEq] at e
    exact Or.inr (by omega)
  · by_cases hroom : n + m ≤ cap
    · have hr2 := run_append_room (P := Tryz.prog) w 31 31 22 i Tryz.underlying31 hi g0 n cap cur hgg ⟨X, 0, none⟩ m m news (by rw [hs]; exact hl1) hnews h1 hroom (by rw [hs, hl, hcs]; omega)
      rw [hr] at hr2
      simp only [Result.ok.injEq] at hr2
      rw [hr2.1] at e
      exact Or.inl e
    · have holds : ∀ j u, xs[j]? = some u → w.cell? ((⟨g0, 0, none⟩ : Addr).add j) = some u := World.ownsRow.cells hown (g := g0) rfl
      have hr2 := run_append_grow (P := Tryz.prog) w 31 31 22 i (.slice none 0 0) Tryz.underlying31 hi hz ⟨g0, 0, none⟩ n cap xs (by rw [hs]; exact hown.1) holds ⟨X, 0, none⟩ m m news (by rw [hs]; exact hl1) hnews (by omega) (by omega) (growslice_fits (by omega) (by rw [hb]; omega))
      rw [hr] at hr2
      simp only [Result.ok.injEq] at hr2
      rw [hr2.1] at e
      simp only [Value.ownBlock, Option.some.injEq] at e
      exact Or.inr (by omega)
theorem outs_push (w : World) (b0 n0 X : Nat) (v : Value) (L N : List Rw1) (h : OutAt w b0 v L) (hv : ∀ g, v.ownBlock = some g → g < n0) (hL : ∀ p ∈ L, ∀ g, (rv p).ownBlock = some g → g < n0)
    (hN : ∀ p ∈ N, w.ownsRow n0 5 1 (rv p) p.2.1 p.2.2.2 ∧ p.2.1 ≤ 100000) (hNA : N.Pairwise fun p q => (rv p).ownBlock = none ∨ (rv p).ownBlock ≠ (rv q).ownBlock) (h0 : 0 < N.length)
    (hX : ∀ j u, (N.map rv)[j]? = some u → w.cell? ⟨X, 0 + j, none⟩ = some u) (hb : b0 ≤ n0) (hb2 : n0 ≤ w.heap.size) (hlen : L.length + N.length ≤ 1000000000) :
    ∃ v' w', (Builtin.append_ #[31, 31] 31 #[v, .slice (some ⟨X, 0, none⟩) N.length N.length]).run Tryz.prog w = .ok v' w' ∧ OutAt w' b0 v' (L ++ N) ∧ w.grownBy w' v.ownBlock := by
  obtain ⟨v', w', hr, ho, hg, hnew⟩ := append_rowsN w b0 L.length N.length X v (L.map rv) (N.map rv) h.own (List.length_map _) h0 hX (fun u hu => by obtain ⟨p, _, rfl⟩ := List.mem_map.1 hu; rfl) hlen (Nat.le_trans hb hb2)
  refine ⟨v', w', hr, ⟨by rw [List.length_append, List.map_append]; exact ho, fun p hp => ?_, ?_⟩, hg⟩
  · rcases List.mem_append.1 hp with hp | hp
    · obtain ⟨k1, k2, k3⟩ := h.each p hp
      refine ⟨k1.kept hg ?_, k2, fun g e e2 => ?_⟩
      · cases hpb : (rv p).ownBlock with
        | none => exact Or.inl rfl
        | some g => exact Or.inr fun e => k3 g hpb e.symm
      · rcases hnew g e2 with h2 | h2
        · exact k3 g e h2
        · have := (k1.lt g e).2; omega
    · obtain ⟨k1, k2⟩ := hN p hp
      refine ⟨(own_down k1 hb).kept hg ?_, k2, fun g e e2 => ?_⟩
      · cases hpb : (rv p).ownBlock with
        | none => exact Or.inl rfl
        | some g => exact Or.inr fun e => by have := hv g e.symm; have := (k1.lt g hpb).1; omega
      · rcases hnew g e2 with h2 | h2
        · have := hv g h2; have := (k1.lt g e).1; omega
        · have := (k1.lt g e).2; omega
  · refine List.pairwise_append.2 ⟨h.apart, hNA, fun p hp q hq => ?_⟩
    cases hpb : (rv p).ownBlock with
    | none => exact Or.inl rfl
    | some g => exact Or.inr fun e => by have := hL p hp g hpb; have := ((hN q hq).1.lt g e.symm).1; omega
/-- a list of rows, just laid -/
theorem outs_lit (w : World) (b0 n : Nat) (L : List Rw1) (hn : L.length = n) (h : ∀ p ∈ L, w.ownsRow b0 5 1 (rv p) p.2.1 p.2.2.2 ∧ p.2.1 ≤ 100000) (ha : L.Pairwise fun p q => (rv p).ownBlock = none ∨ (rv p).ownBlock ≠ (rv q).ownBlock) (hb : b0 ≤ w.heap.size) (hm : n ≤ 1000000) :
    OutAt (w.alloc (.cells (L.map rv).toArray 22)) b0 (.slice (some ⟨w.heap.size, 0, none⟩) n n) L := by
  subst hn
  have hg := gb_alloc (gb_refl w none) (.cells (L.map rv).toArray 22)
  refine ⟨⟨by simp, Or.inr ⟨w.heap.size, L.length, (L.map rv).toArray, rfl, hb, Blk.new w (L.map rv) _, Nat.le_refl _, by unfold maxLen; omega, by simp, by rw [Nat.mul_one]; exact List.take_of_length_le (by simp)⟩⟩, fun p hp => ?_, ha⟩
  obtain ⟨h1, h2⟩ := h p hp
  refine ⟨own_kept h1 hg, h2, fun g e e2 => ?_⟩
  simp only [Value.ownBlock, Option.some.injEq] at e2
  have := (h1.lt g e).2
  omega
/-- rows that rise lie apart -/
theorem rise_apart {p q : Rw1} {a : Nat} (h1 : ∀ g, (rv p).ownBlock = some g → g < a) (h2 : ∀ g, (rv q).ownBlock = some g → a ≤ g) : (rv p).ownBlock = none ∨ (rv p).ownBlock ≠ (rv q).ownBlock := by
  cases hp : (rv p).ownBlock with
  | none => exact Or.inl rfl
  | some g => exact Or.inr fun e => by have := h1 g hp; have := h2 g e.symm; omega
/-- all of them lie apart; blocks that are none of theirs stay -/
theorem apart_all_kb {f : Nat → Nat → Nat} (hf : Marks f) (w0 w : World) (v : Value) (b0 : Nat) (L : List Rw1) (h : OutAt w b0 v L) (hb : w0.heap.size ≤ b0) (hg : w0.grownBy w none) (hl : 0 < L.length) (hl2 : L.length ≤ 70000) :
    Calls Tryz.prog 17 #[v] w fun e w' => e = .returned (.bool true) ∧ w0.grownBy w' none ∧ w.heap.size ≤ w'.heap.size ∧ ∀ i, i < w.heap.size → (∀ p ∈ L, (rv p).ownBlock ≠ some i) → w'.heap[i]? = w.heap[i]? := by
  obtain ⟨m, hm⟩ : ∃ m, m = L.length := ⟨_, rfl⟩
  have hgd : ∀ j (hj : j < L.length) (d : Rw1), L.getD j d = L[j] := fun j hj d => by rw [List.getD_eq_getElem?_getD, List.getElem?_eq_getElem hj]; rfl
  obtain ⟨d, _⟩ : ∃ d : Rw1, d = (none, 0, 0, []) := ⟨_, rfl⟩
  obtain ⟨V, hV⟩ : ∃ V : Lists, V = ⟨fun j => (L.getD j d).1, fun j => (L.getD j d).2.1, fun j => (L.getD j d).2.2.1⟩ := ⟨_, rfl⟩
  have hVv : ∀ j, V.v j = rv (L.getD j d) := fun j => by rw [hV]; rfl
  have hVg : ∀ j, V.g j = (rv (L.getD j d)).ownBlock := fun j => by rw [← hVv, V.own_block]
  have hVn : ∀ j, V.n j = (L.getD j d).2.1 := fun j => by rw [hV]
  have hmem : ∀ j, j < L.length → L.getD j d ∈ L := fun j hj => by rw [hgd j hj]; exact List.getElem_mem _
  obtain ⟨g, c, cur, rfl, hbg, hgg, hnc, hcm, hcs, ht⟩ := h.own.2.resolve_left (fun hh => by omega)
  have hap := List.pairwise_iff_getElem.1 h.apart
  have hA : V.Apart L.length g w.heap.size := by
    refine ⟨fun j k hj hk hne => ?_, fun j hj e => ?_, fun j hj i e => ?_, fun j hj => ?_⟩
    · rw [hVg, hVg, hgd j hj, hgd k hk]
      rcases (by omega : j < k ∨ k < j) with hjk | hjk
      · exact hap j k hj hk hjk
      · rcases hap k j hk hj hjk with h1 | h1
        · cases h2 : (rv L[j]).ownBlock with
          | none => exact Or.inl rfl
          | some x => exact Or.inr fun e => by rw [← e] at h1; cases h1
        · exact Or.inr fun e => h1 e.symm
    · rw [hVg] at e
      exact (h.each _ (hmem j hj)).2.2 g e rfl
    · rw [hVg] at e
      exact ((h.each _ (hmem j hj)).1.lt i e).2
    · rw [hVn]; exact (h.each _ (hmem j hj)).2.1
  have hO : Owns w V L.length (fun j => (L.getD j d).2.2.2) := fun j hj => by
    rw [hVv, hVn]
    exact own_down (h.each _ (hmem j hj)).1 (Nat.zero_le _)
  have hLs : ListAt w g V L.length := by
    refine ⟨cur.toList.drop (L.length * 1), ?_⟩
    have e : (List.range L.length).map V.v = L.map rv := by
      apply List.ext_getElem?
      intro j
      by_cases hj : j < L.length
      · rw [List.getElem?_map, List.getElem?_map, List.getElem?_range hj, List.getElem?_eq_getElem hj]
        simp only [Option.map_some]
        rw [hVv, hgd j hj]
      · rw [List.getElem?_eq_none (by simp; omega), List.getElem?_eq_none (by simp; omega)]
    rw [e, ← ht, List.take_append_drop]
    unfold Blk
    rw [hgg]
  refine (apartB_any hf V L.length g c _ w hl2 hl hnc (by unfold maxLen at hcm; omega) hA hO hLs).mono ?_
  rintro e w' ⟨rfl, _, hk⟩
  refine ⟨rfl, ⟨hk.os.trans hg.os, hk.tape.trans hg.tape, hk.output.trans hg.output, Nat.le_trans hg.size hk.size, fun i hi hr => (hk.block i (Nat.lt_of_lt_of_le hi hg.size) ?_).trans (hg.block i hi hr)⟩, hk.size, fun i hi hn => hk.block i hi ?_⟩
  · rintro ⟨j, hj, e⟩
    rw [hVg] at e
    have := ((h.each _ (hmem j hj)).1.lt i e).1
    omega
  · rintro ⟨j, hj, e⟩
    rw [hVg] at e
    exact hn _ (hmem j hj) e
/-- all of them lie apart -/
theorem apart_all {f : Nat → Nat → Nat} (hf : Marks f) (w0 w : World) (v : Value) (b0 : Nat) (L : List Rw1) (h : OutAt w b0 v L) (hb : w0.heap.size ≤ b0) (hg : w0.grownBy w none) (hl : 0 < L.length) (hl2 : L.length ≤ 70000) :
    Calls Tryz.prog 17 #[v] w fun e w' => e = .returned (.bool true) ∧ w0.grownBy w' none := (apart_all_kb hf w0 w v b0 L h hb hg hl hl2).mono fun _ _ h => ⟨h.1, h.2.1⟩
/-- a row of one's own whose block stays -/
theorem own_same {w w' : World} {base e n : Nat} {v : Value} {xs : List Value} (h : w.ownsRow base e 1 v n xs) (hs : ∀ g, v.ownBlock = some g → w'.heap[g]? = w.heap[g]?) : w'.ownsRow base e 1 v n xs := by
  refine ⟨h.1, ?_⟩
  rcases h.2 with h' | ⟨g, c, cur, e1, e2, e3, e4⟩
  · exact Or.inl h'
  · exact Or.inr ⟨g, c, cur, e1, e2, (hs g (by rw [e1]; rfl)).trans e3, e4⟩
end Ow
end Go.Proofs.YtmnlidfalhjghaaGreatDoor

/- The law on what any three are multiplied and added to. -/
namespace Go.Proofs.YtmnlidfalhjghaaGreatDoor
open Go.RowKit Ow
namespace Sr
/-- bytes in a row of one's own, or none -/
def YB (R : List Nat) (w : World) (e : Ending) (w' : World) : Prop := ∃ a cap, e = .returned (.slice a R.length cap) ∧ w.grownBy w' none ∧ w'.ownsRow w.heap.size 5 1 (.slice a R.length cap) R.length (R.map u8N)
/-- bytes that lie somewhere, or none -/
def RB (R : List Nat) (w : World) (e : Ending) (w' : World) : Prop := ∃ a cap, e = .returned (.slice a R.length cap) ∧ w.grownBy w' none ∧ BytesAt w' w'.heap.size a cap R
theorem bytes_none (w : World) : BytesAt w w.heap.size none 0 [] := ⟨Nat.le_refl _, Nat.le_refl _, by decide, fun i => by simp, Or.inl rfl⟩
theorem YB.none (w w' : World) (hg : w.grownBy w' none) : YB [] w (.returned (.slice none 0 0)) w' := ⟨_, _, rfl, hg, World.ownsRow_nil _ _ _ 1⟩
theorem RB.none (w w' : World) (hg : w.grownBy w' none) : RB [] w (.returned (.slice none 0 0)) w' := ⟨_, _, rfl, hg, bytes_none w'⟩
theorem YB.of {l : List Nat} {w w' : World} {e : Ending} (hl : l.length ≤ 1000) (h : OutB l w e w') : YB l w e w' := by
  obtain ⟨g, rfl, hg, hs, ho⟩ := OutB.own h l.length rfl (by omega)
  exact ⟨_, _, rfl, hg, ho⟩
theorem RB.of {n : Nat} {w w' : World} {e : Ending} (h : OutR n w e w') : RB (scB n) w e w' := by
  obtain ⟨g, rfl, hg, hs, ho⟩ := OutR.at h
  exact ⟨_, _, by rw [scB_length], hg, ho⟩
theorem YB.bytes {R : List Nat} {w w' : World} {a : Option Addr} {cap : Nat} (hb : ∀ i, R.getD i 0 < 256) (h : w'.ownsRow w.heap.size 5 1 (.slice a R.length cap) R.length (R.map u8N)) : BytesAt w' w'.heap.size a cap R := by
  rcases Nat.eq_zero_or_pos R.length with h0 | h0
  · have : R = [] := List.eq_nil_of_length_eq_zero h0
    subst this
    rcases h.2 with ⟨e, _⟩ | ⟨g, c, cur, e, _, hg, hnc, hcm, _⟩
    · cases e; exact bytes_none w'
    · cases e
      exact ⟨Nat.le_refl _, hnc, by unfold maxLen at hcm; omega, hb, Or.inl rfl⟩
  · obtain ⟨g, c, e, _, _, hB⟩ := own_bytesAt h rfl h0 hb
    cases e
    exact hB
theorem YB.room {R : List Nat} {w w' : World} {a : Option Addr} {cap : Nat} (h : w'.ownsRow w.heap.size 5 1 (.slice a R.length cap) R.length (R.map u8N)) : ∀ g, (Value.slice a R.length cap).ownBlock = some g → w.heap.size ≤ g ∧ g < w'.heap.size := fun g e => h.lt g e
def mulR (x y z : List Nat) : List Nat := if x.length = 32 ∧ y.length = 32 ∧ z.length = 32 then scB (num x * num y + num z) else []
theorem mulR_len (x y z : List Nat) : (mulR x y z).length ≤ 32 := by unfold mulR; split <;> simp [scB_length]
theorem mulR_lt (x y z : List Nat) : ∀ i, (mulR x y z).getD i 0 < 256 := fun i => by unfold mulR; split; exact scB_lt _ _; simp
set_option maxHeartbeats 1000000 in
theorem mul_none (n1 n2 n3 c1 c2 c3 : Nat) (a1 a2 a3 : Option Addr) (w : World) (h : ¬ (n1 = 32 ∧ n2 = 32 ∧ n3 = 32)) :
    Calls Tryz.prog 19 #[.slice a1 n1 c1, .slice a2 n2 c2, .slice a3 n3 c3] w fun e w' => e = .returned (.slice none 0 0) ∧ w.grownBy w' none := by
  by_cases h1 : n1 = 32
  · subst h1
    by_cases h2 : n2 = 32
    · subst h2
      have i3 : ¬ (n3 : Int) = 32 := by omega
      clear h
      go_enter Tryz.func19, Tryz.ntmps19
      go_wp2
      go_ret
      exact ⟨rfl, gb_refl _ _⟩
    · have i3 : ¬ (n2 : Int) = 32 := by omega
      clear h h2
      go_enter Tryz.func19, Tryz.ntmps19
      go_wp2
      go_ret
      exact ⟨rfl, gb_refl _ _⟩
  · have i3 : ¬ (n1 : Int) = 32 := by omega
    clear h h1
    go_enter Tryz.func19, Tryz.ntmps19
    go_wp2
    go_ret
    exact ⟨rfl, gb_refl _ _⟩
set_option maxHeartbeats 1000000 in
theorem rmul_none (n1 n2 n3 c1 c2 c3 : Nat) (a1 a2 a3 : Option Addr) (w : World) (h : ¬ (n1 = 32 ∧ n2 = 32 ∧ n3 = 32)) :
    Calls Tryz.prog 20 #[.slice a1 n1 c1, .slice a2 n2 c2, .slice a3 n3 c3] w fun e w' => e = .returned (.slice none 0 0) ∧ w.grownBy w' none := by
  by_cases h1 : n1 = 32
  · subst h1
    by_cases h2 : n2 = 32
    · subst h2
      have i3 : ¬ (n3 : Int) = 32 := by omega
      clear h
      go_enter Tryz.func20, Tryz.ntmps20
      go_wp2
      go_ret
      exact ⟨rfl, gb_refl _ _⟩
    · have i3 : ¬ (n2 : Int) = 32 := by omega
      clear h h2
      go_enter Tryz.func20, Tryz.ntmps20
      go_wp2
      go_ret
      exact ⟨rfl, gb_refl _ _⟩
  · have i3 : ¬ (n1 : Int) = 32 := by omega
    clear h h1
    go_enter Tryz.func20, Tryz.ntmps20
    go_wp2
    go_ret
    exact ⟨rfl, gb_refl _ _⟩
theorem mulG_any (n1 n2 n3 c1 c2 c3 B1 B2 B3 : Nat) (a1 a2 a3 : Option Addr) (x y z : List Nat) (w : World) (h1 : x.length = n1) (h2 : y.length = n2) (h3 : z.length = n3) (hA : BytesAt w B1 a1 c1 x) (hB : BytesAt w B2 a2 c2 y) (hC : BytesAt w B3 a3 c3 z) (hT : OTab w) :
    Calls Tryz.prog 19 #[.slice a1 n1 c1, .slice a2 n2 c2, .slice a3 n3 c3] w (YB (mulR x y z) w) := by
  by_cases h : n1 = 32 ∧ n2 = 32 ∧ n3 = 32
  · obtain ⟨rfl, rfl, rfl⟩ := h
    have e : mulR x y z = scB (num x * num y + num z) := if_pos ⟨h1, h2, h3⟩
    rw [e]
    exact (mulAddB_any c1 c2 c3 B1 B2 B3 a1 a2 a3 x y z w h1 h2 h3 hA hB hC hT).mono fun _ _ h => YB.of (by rw [scB_length]; decide) h
  · have e : mulR x y z = [] := if_neg (by rw [h1, h2, h3]; exact h)
    rw [e]
    exact (mul_none n1 n2 n3 c1 c2 c3 a1 a2 a3 w h).mono fun _ _ ⟨he, hg⟩ => by rw [he]; exact YB.none _ _ hg
theorem rmulG_any (n1 n2 n3 c1 c2 c3 B1 B2 B3 : Nat) (a1 a2 a3 : Option Addr) (x y z : List Nat) (w : World) (h1 : x.length = n1) (h2 : y.length = n2) (h3 : z.length = n3) (hA : BytesAt w B1 a1 c1 x) (hB : BytesAt w B2 a2 c2 y) (hC : BytesAt w B3 a3 c3 z) :
    Calls Tryz.prog 20 #[.slice a1 n1 c1, .slice a2 n2 c2, .slice a3 n3 c3] w (RB (mulR x y z) w) := by
  by_cases h : n1 = 32 ∧ n2 = 32 ∧ n3 = 32
  · obtain ⟨rfl, rfl, rfl⟩ := h
    have e : mulR x y z = scB (num x * num y + num z) := if_pos ⟨h1, h2, h3⟩
    rw [e]
    exact (rmulAdd_any c1 c2 c3 B1 B2 B3 a1 a2 a3 x y z w h1 h2 h3 hA hB hC).mono fun _ _ h => RB.of h
  · have e : mulR x y z = [] := if_neg (by rw [h1, h2, h3]; exact h)
    rw [e]
    exact (rmul_none n1 n2 n3 c1 c2 c3 a1 a2 a3 w h).mono fun _ _ ⟨he, hg⟩ => by rw [he]; exact RB.none _ _ hg
/-- bytes that were lent, as a row of one's own, and as bytes -/
theorem lent_own {w : World} {g n b : Nat} {p : List Nat} {f : Nat → Nat → Nat} (h : Blk w g 5 ((p ++ marksOf f 1 12).map u8N)) (hn : p.length = n) (hb : b ≤ g) (hm : n ≤ 30000) : w.ownsRow b 5 1 (.slice (some ⟨g, 0, none⟩) n (n + 12)) n (p.map u8N) :=
  ⟨by rw [List.length_map]; omega, Or.inr ⟨g, n + 12, ((p ++ marksOf f 1 12).map u8N).toArray, rfl, hb, h, by omega, by unfold maxLen; omega, by simp [marksOf_length, hn], by rw [Nat.mul_one, List.map_append]; exact List.take_left' (by rw [List.length_map]; exact hn)⟩⟩
theorem lent_bytes {w : World} {g n : Nat} {p : List Nat} {f : Nat → Nat → Nat} (h : Blk w g 5 ((p ++ marksOf f 1 12).map u8N)) (hn : p.length = n) (hm : n ≤ 30000) (hp : ∀ i, p.getD i 0 < 256) : BytesAt w w.heap.size (some ⟨g, 0, none⟩) (n + 12) p :=
  blk_bytes (tl := (marksOf f 1 12).map u8N) (by rw [← List.map_append]; exact h) hn (by omega) (by omega) hp h.lt (Nat.le_refl _)
/-- where a row's block lies -/
def Br (p : Rw1) (lo hi : Nat) : Prop := ∀ g, (rv p).ownBlock = some g → lo ≤ g ∧ g < hi
theorem br_apart {p q : Rw1} {a b c d : Nat} (h1 : Br p a b) (h2 : Br q c d) (h : b ≤ c ∨ d ≤ a) : (rv p).ownBlock = none ∨ (rv p).ownBlock ≠ (rv q).ownBlock := by
  cases hp : (rv p).ownBlock with
  | none => exact Or.inl rfl
  | some g => exact Or.inr fun e => by have := h1 g hp; have := h2 g e.symm; omega
theorem br_lent (g n c : Nat) (l : List Value) : Br (some ⟨g, 0, none⟩, n, c, l) g (g + 1) := fun i e => by
  simp only [rv, Value.ownBlock, Option.some.injEq] at e
  omega
end Sr
end Go.Proofs.YtmnlidfalhjghaaGreatDoor

/- scalar's document: the bits, one by one; rows of truths that are the same. -/
namespace Go.Proofs.YtmnlidfalhjghaaGreatDoor
open Go.RowKit Ow
namespace Sr
/-- one truth, out of a box that was just made -/
theorem append1_bool (w : World) (base n : Nat) (v x : Value) (xs : List Value) (hown : w.ownsRow base 4 1 v n xs) (h1 : x.oneCell' = true) (hn : (n + 1) * 1 ≤ 140737488355328) (hbase : base ≤ w.heap.size) :
    ∃ v' w', (Builtin.append_ #[25, 25] 25 #[v, .slice (some ⟨w.heap.size, 0, none⟩) 1 1]).run Tryz.prog (w.alloc (.cells #[x] 4)) = .ok v' w' ∧ w'.ownsRow base 4 1 v' (n + 1) (xs ++ [x]) ∧ w.grownBy w' v.ownBlock := by
  obtain ⟨i, z, hi, hz, hs, hb, hc⟩ := info_bool
  obtain ⟨v', w', hr, ho, hg, _⟩ := run_append_own (w.alloc (.cells #[x] 4)) base 25 25 4 i z 1 1 (P := Tryz.prog) Tryz.underlying25 hi hz hs hb hc (by decide) v n xs (hown.alloc _) ⟨w.heap.size, 0, none⟩ 1 1 [x] (by simp) (fun j u hu => by
    have hj : j = 0 := by
      rcases Nat.eq_zero_or_pos j with h | h
      · exact h
      · rw [List.getElem?_eq_none (by simp; omega)] at hu; cases hu
    subst hj
    rw [show x = u by simpa using hu]
    exact (Blk.new w [u] 4).cell (i := 0) rfl) (fun u hu => by rw [List.mem_singleton.1 hu]; exact h1) (by unfold maxLen; omega) hn (by simp; omega)
  exact ⟨v', w', hr, ho, gb_trans (gb_alloc (gb_refl _ _) _) hg⟩
theorem rbits_none (n ca : Nat) (a : Option Addr) (w : World) (hn : n ≠ 32) :
    Calls Tryz.prog 15 #[.slice a n ca] w fun e w' => e = .returned (.slice none 0 0) ∧ w.grownBy w' none := by
  have h64 : ¬ (n : Int) = 32 := by omega
  go_enter Tryz.func15, Tryz.ntmps15
  go_wp2
  go_ret
  exact ⟨rfl, gb_refl _ _⟩
set_option maxRecDepth 100000 in
set_option maxHeartbeats 1000000 in
theorem rbits_any (ca Ba : Nat) (a : Option Addr) (x : List Nat) (w : World) (hx : x.length = 32) (hA : BytesAt w Ba a ca x) :
    Calls Tryz.prog 15 #[.slice a 32 ca] w fun e w' => ∃ v, e = .returned v ∧ w.grownBy w' none ∧ w'.ownsRow w.heap.size 4 1 v 256 ((bitsTo (fun i => x.getD i 0) 256).map .bool) := by
  have hlA := hA.lim
  obtain ⟨pa, oa, rfl, hpa, hca⟩ := byte_cell hA (by omega)
  have HX := Lib.hid (And.intro (fun j hj => hca j (by rw [hx]; exact hj) : ∀ j, j < 32 → w.cell? ⟨pa, oa + j, none⟩ = some (.int .u8 ((x.getD j 0 : Nat) : Int))) hA.byte)
  have hpn : pa < w.heap.size := by omega
  clear hca hpa hlA hA hx
  go_enter Tryz.func15, Tryz.ntmps15
  go_wp2_with fail
  go_loopw [3, 4] (fun v i wr => ∃ k : Nat, k ≤ 256 ∧ i = .int .i64 k ∧ w.grownBy wr none ∧ wr.ownsRow w.heap.size 4 1 v k ((bitsTo (fun i => x.getD i 0) k).map .bool)) (fun _ i _ => 256 - (intOf i).toNat)
  case atStart => exact ⟨0, by omega, rfl, gb_refl _ _, World.ownsRow_nil _ _ _ 1⟩
  case round =>
    obtain ⟨k, hk, rfl, hg, ho⟩ := hrel
    by_cases hlt : k < 256
    · have i1 : (k : Int) < 256 := by omega
      have ca := (gb_cell hg (p := ⟨pa, oa + k / 8, none⟩) hpn (by simp)).trans (HX.out.1 (k / 8) (by omega))
      have hbi := bit_is (x.getD (k / 8) 0) (k % 8) (HX.out.2 _)
      obtain ⟨v', w', hap, ho', hg'⟩ := append1_bool wr w.heap.size k _ (.bool (bitAt (fun i => x.getD i 0) k)) _ ho rfl (by omega) hg.size
      have hg2 := gb_own hg ho (Nat.le_refl _) hg'
      have e1 : (bitsTo (fun i => x.getD i 0) k).map Value.bool ++ [Value.bool (bitAt (fun i => x.getD i 0) k)] = (bitsTo (fun i => x.getD i 0) (k + 1)).map Value.bool := by rw [bitsTo_succ, List.map_append]; rfl
      rw [e1] at ho'
      have eb : bitAt (fun i => x.getD i 0) k = decide (x.getD (k / 8) 0 / 2 ^ (k % 8) % 2 = 1) := rfl
      rw [eb, ← hbi] at hap
      have HI := Lib.hid (And.intro hg2 ho'); clear hg2 ho' hg' e1 hg ho eb hbi
      generalize x.getD (k / 8) 0 = xk at *
      go_wp2_with (at_builtin; refine wpList_append_run rfl (.tmp 12) (.tmp 24) 25 rfl rfl _ _ rfl rfl _ _ hap ?_)
      clear hap
      go_roundw
      case rel => exact ⟨k + 1, by omega, by go_num, HI.out.1, HI.out.2⟩
      case measure => simp [intOf]; omega
    · obtain rfl : k = 256 := by omega
      have HI := Lib.hid (And.intro hg ho); clear hg ho
      go_wp2
      go_ret
      exact ⟨_, rfl, HI.out⟩
set_option maxHeartbeats 1000000 in
theorem sameTruths_nil (ca cb : Nat) (a b : Option Addr) (w : World) :
    Calls Tryz.prog 14 #[.slice a 0 ca, .slice b 0 cb] w fun e w' => e = .returned (.bool true) ∧ w.grownBy w' none := by
  go_enter Tryz.func14, Tryz.ntmps14
  go_wp2_with fail
  go_loopw [5] (fun i wr => i = .int .i64 0 ∧ w.grownBy wr none) (fun _ _ => 0)
  case atStart => exact ⟨rfl, gb_refl _ _⟩
  obtain ⟨rfl, hg⟩ := hrel
  go_wp2
  go_ret
  exact ⟨rfl, hg⟩
set_option maxHeartbeats 1000000 in
theorem sameTruths_yes (n ca cb ga gb : Nat) (l : List Bool) (w : World) (hn : n ≤ 1000000) (h1 : ∀ j, j < n → w.cell? ⟨ga, j, none⟩ = some (.bool (l.getD j false))) (h2 : ∀ j, j < n → w.cell? ⟨gb, j, none⟩ = some (.bool (l.getD j false))) (hga : ga < w.heap.size) (hgb : gb < w.heap.size) :
    Calls Tryz.prog 14 #[.slice (some ⟨ga, 0, none⟩) n ca, .slice (some ⟨gb, 0, none⟩) n cb] w fun e w' => e = .returned (.bool true) ∧ w.grownBy w' none := by
  have HX := Lib.hid (And.intro h1 h2); clear h1 h2
  go_enter Tryz.func14, Tryz.ntmps14
  go_wp2_with fail
  go_loopw [5] (fun i wr => ∃ k : Nat, k ≤ n ∧ i = .int .i64 k ∧ w.grownBy wr none) (fun i _ => n - (intOf i).toNat)
  case atStart => exact ⟨0, by omega, rfl, gb_refl _ _⟩
  case round =>
    obtain ⟨k, hk, rfl, hg⟩ := hrel
    by_cases hlt : k < n
    · have i1 : (k : Int) < (n : Int) := by omega
      have c1 := (gb_cell hg (p := ⟨ga, k, none⟩) hga (by simp)).trans (HX.out.1 k hlt)
      have c2 := (gb_cell hg (p := ⟨gb, k, none⟩) hgb (by simp)).trans (HX.out.2 k hlt)
      have HG := Lib.hid hg; clear hg
      generalize l.getD k false = t at *
      go_wp2_with fail
      go_region
      go_wp2
      go_roundw
      case rel => exact ⟨k + 1, by omega, by go_num, gb_drew HG.out⟩
      case measure => simp [intOf]; omega
    · obtain rfl : k = n := by omega
      have HG := Lib.hid hg; clear hg
      go_wp2
      go_ret
      exact ⟨rfl, HG.out⟩
end Sr
end Go.Proofs.YtmnlidfalhjghaaGreatDoor

/- The kit's flatTruths: lists of truths that lie apart stay what they are marked. -/
namespace Go.Proofs.YtmnlidfalhjghaaGreatDoor
open Go.RowKit Ow
namespace Ft

/-- a truth out of a number -/
def tN (n : Nat) : Value := .bool ((n : Int) % 3 == 0)
theorem info_bz : ∃ i, Tryz.prog.info? 4 = some i ∧ i.zero = some (.bool false) ∧ i.size = 1 ∧ i.bytes = 1 := by
  have h : (Tryz.prog.info? 4).map (fun i => (i.zero, i.size, i.bytes)) = some (some (.bool false), 1, 1) := by kernel_rfl
  cases hi : Tryz.prog.info? 4 with
  | none => rw [hi] at h; cases h
  | some i =>
    rw [hi] at h
    simp only [Option.map_some, Option.some.injEq, Prod.mk.injEq] at h
    exact ⟨i, rfl, h.1, h.2.1, h.2.2⟩
theorem elt_b : Elt 4 25 1 (.bool false) := ⟨Tryz.underlying25, by
  obtain ⟨i, hi, hz, hs, hb⟩ := info_bz
  exact ⟨i, hi, hz, hs, hb, rfl⟩⟩
theorem made_bools (n : Nat) : madeCells (Value.bool false).cells n = (List.replicate n (Value.bool false)).toArray := by
  unfold madeCells
  apply Array.ext
  · simp
  · intro i h1 h2
    simp [Value.cells, Nat.mod_one]
theorem make_bools (n c : Nat) (w : World) (h : n ≤ c) (hc : c ≤ 140737488355328) : ∃ w', (Instr.makeSlice 25 (.int .i64 n) (.int .i64 c)).run Tryz.prog w = .ok (.slice (some ⟨w.heap.size, 0, none⟩) n c) w' ∧
    w.grownBy w' none ∧ w'.heap.size = w.heap.size + 1 ∧ Blk w' w.heap.size 4 (List.replicate c (.bool false)) := by
  obtain ⟨i, hi, hz, hs, hb⟩ := info_bz
  have h2 := run_make (P := Tryz.prog) w 25 4 i (.bool false) Tryz.underlying25 hi hz .i64 .i64 n c (by omega) (by omega) (by rw [hb]; omega) (by omega)
  rw [hs, Nat.mul_one, Int.toNat_natCast, Int.toNat_natCast, made_bools] at h2
  exact ⟨_, h2, gb_alloc (gb_refl _ _) _, by simp, Blk.new w _ _⟩
/-- marks, by whatever function -/
structure MarksT (f : Nat → Nat → Nat) : Prop where
  lt : ∀ k i, k ≤ 1000000 → i ≤ 1000000 → f k i < 9000000000000
  run : ∀ (k i : Nat) (x y : Int) (w : World), x = k → y = i → k ≤ 1000000 → i ≤ 1000000 → Calls Tryz.prog 37 #[.int .i64 x, .int .i64 y] w fun e w' => e = .returned (.int .i64 (f k i : Nat)) ∧ w' = w
def mkT (k i : Nat) : Nat := 1000003 * (k + 7) + i
set_option maxHeartbeats 400000 in
theorem markT_any (k i : Nat) (w : World) (hk : k ≤ 1000000) (hi : i ≤ 1000000) :
    Calls Tryz.prog 37 #[.int .i64 k, .int .i64 i] w fun e w' => e = .returned (.int .i64 (mkT k i : Nat)) ∧ w' = w := by
  go_enter Tryz.func37, Tryz.ntmps37
  go_wp2
  go_ret
  refine ⟨?_, rfl⟩
  unfold mkT
  rw [show (((1000003 * (k + 7) + i : Nat)) : Int) = 1000003 * ((k : Int) + 7) + (i : Int) by omega]
  rfl
theorem marksT_kit : MarksT mkT := ⟨fun k i h1 h2 => by unfold mkT; omega, fun k i x y w hx hy hk hi => by subst hx; subst hy; exact markT_any k i w hk hi⟩
theorem marksOf_next (f : Nat → Nat → Nat) (k j : Nat) : (marksOf f k (j + 1)).map tN = (marksOf f k j).map tN ++ [tN (f k j)] := by simp [marksOf, List.range_succ]
theorem tN_getD {l : List Nat} {i : Nat} (h : i < l.length) : (l.map tN)[i]? = some (tN (l.getD i 0)) := by
  rw [List.getElem?_map, List.getElem?_eq_getElem h, List.getD_eq_getElem?_getD, List.getElem?_eq_getElem h]; rfl
/-- lists: where they lie, how long, how much room -/
structure Lists where
  A : Nat → Option Addr
  n : Nat → Nat
  C : Nat → Nat
def Lists.v (V : Lists) (j : Nat) : Value := .slice (V.A j) (V.n j) (V.C j)
def Lists.g (V : Lists) (j : Nat) : Option Nat := (V.A j).map (·.block)
/-- the blocks of the first m -/
def Lists.S (V : Lists) (m : Nat) (i : Nat) : Prop := ∃ j, j < m ∧ V.g j = some i
structure Lists.Apart (V : Lists) (m : Nat) (LB top : Nat) : Prop where
  apart : ∀ j k, j < m → k < m → j ≠ k → V.g j = none ∨ V.g j ≠ V.g k
  ls : ∀ j, j < m → V.g j ≠ some LB
  old : ∀ j, j < m → ∀ i, V.g j = some i → i < top
  small : ∀ j, j < m → V.n j ≤ 100000
theorem Lists.own_block (V : Lists) (j : Nat) : (V.v j).ownBlock = V.g j := by
  unfold Lists.v Lists.g Value.ownBlock
  cases V.A j <;> rfl
def mkV (f : Nat → Nat → Nat) (k c : Nat) : List Value := (marksOf f k c).map tN
theorem mkV_length (f : Nat → Nat → Nat) (k c : Nat) : (mkV f k c).length = c := by simp [mkV, marksOf_length]
theorem mkV_next (f : Nat → Nat → Nat) (k c : Nat) : mkV f k (c + 1) = mkV f k c ++ [tN (f k c)] := marksOf_next f k c
theorem mkV_get (f : Nat → Nat → Nat) (k c i : Nat) (h : i < c) : (mkV f k c)[i]? = some (tN (f k i)) := by
  unfold mkV
  rw [tN_getD (by rw [marksOf_length]; exact h), marksOf_get f k c i h]
theorem mkV_take (f : Nat → Nat → Nat) (k c d : Nat) (h : d ≤ c) : (mkV f k c).take d = mkV f k d := by
  apply List.ext_getElem?
  intro i
  rw [List.getElem?_take]
  by_cases hi : i < d
  · rw [if_pos hi, mkV_get f k c i (by omega), mkV_get f k d i hi]
  · rw [if_neg hi, List.getElem?_eq_none (by rw [mkV_length]; omega)]
theorem mkV_one (f : Nat → Nat → Nat) (k c : Nat) : ∀ u ∈ mkV f k c, u.oneCell' = true := by
  intro u hu
  obtain ⟨x, _, rfl⟩ := List.mem_map.1 hu
  rfl
/-- amid marking -/
def amid (f : Nat → Nat → Nat) (k i : Nat) (xs : List Value) : List Value := mkV f k i ++ xs.drop i
theorem amid_start (f : Nat → Nat → Nat) (k : Nat) (xs : List Value) : amid f k 0 xs = xs := by simp [amid, mkV, marksOf]
theorem amid_end (f : Nat → Nat → Nat) (k n : Nat) (xs : List Value) (h : xs.length = n) : amid f k n xs = mkV f k n := by
  unfold amid; rw [List.drop_eq_nil_of_le (by omega), List.append_nil]
theorem amid_set (f : Nat → Nat → Nat) (k i : Nat) (xs : List Value) (h : i < xs.length) : (amid f k i xs).set i (tN (f k i)) = amid f k (i + 1) xs := by
  unfold amid
  rw [List.set_append_right _ _ (by rw [mkV_length]; omega), mkV_length, Nat.sub_self, mkV_next, List.append_assoc]
  congr 1
  rw [List.drop_eq_getElem_cons h]
  rfl
/-- each list, the first k marked, of the next one i -/
def rowAt (f : Nat → Nat → Nat) (V : Lists) (xs : Nat → List Value) (k i j : Nat) : List Value := if j < k then mkV f j (V.n j) else if j = k then amid f k i (xs j) else xs j
def Owns (w : World) (V : Lists) (m : Nat) (r : Nat → List Value) : Prop := ∀ j, j < m → w.ownsRow 0 4 1 (V.v j) (V.n j) (r j)
theorem Owns.kept {w w' : World} {V : Lists} {m : Nat} {r : Nat → List Value} (h : Owns w V m r) {row : Option Nat} (hg : w.grownBy w' row) (hr : ∀ j, j < m → V.g j = none ∨ V.g j ≠ row) : Owns w' V m r := fun j hj =>
  (h j hj).kept hg (by rw [V.own_block]; exact hr j hj)
theorem Owns.stay {w w' : World} {V : Lists} {m : Nat} {r : Nat → List Value} (h : Owns w V m r) (hg : w.grownBy w' none) : Owns w' V m r := h.kept hg (fun j _ => by cases V.g j <;> simp)
theorem Owns.congr {w : World} {V : Lists} {m : Nat} {r r' : Nat → List Value} (h : Owns w V m r) (hr : ∀ j, j < m → r j = r' j) : Owns w V m r' := fun j hj => hr j hj ▸ h j hj
/-- list k has a block, if it is not empty -/
theorem Owns.some {w : World} {V : Lists} {m : Nat} {r : Nat → List Value} (h : Owns w V m r) {k : Nat} (hk : k < m) (hn : 0 < V.n k) : ∃ g, V.A k = some ⟨g, 0, none⟩ ∧ V.g k = some g := by
  obtain ⟨g, c, e, _⟩ := own_some (h k hk) hn
  unfold Lists.v at e
  cases e' : V.A k with
  | none => rw [e'] at e; cases e
  | some a =>
    rw [e'] at e
    cases e
    exact ⟨g, rfl, by unfold Lists.g; rw [e']; rfl⟩
/-- one cell of list k set -/
theorem Owns.set {w : World} {V : Lists} {m LB top : Nat} {r r' : Nat → List Value} (h : Owns w V m r) (hV : V.Apart m LB top) {k i g : Nat} (hk : k < m) (hA : V.A k = Option.some ⟨g, 0, none⟩) (v : Value) (hr : ∀ j, j < m → r' j = if j = k then (r k).set i v else r j) : Owns (w.setCell ⟨g, i, none⟩ v) V m r' := by
  intro j hj
  rw [hr j hj]
  by_cases e : j = k
  · subst e
    rw [if_pos rfl]
    have := h j hj
    unfold Lists.v at this ⊢
    rw [hA] at this ⊢
    exact own_set this v
  · rw [if_neg e]
    refine (h j hj).kept (gb_set (gb_refl w (Option.some g)) i v) ?_
    rw [V.own_block]
    have hgk : V.g k = Option.some g := by unfold Lists.g; rw [hA]; rfl
    rw [← hgk]
    exact hV.apart j k hj hk e
/-- the list of the lists, in its block (with room behind it) -/
def ListAt (w : World) (LB : Nat) (V : Lists) (m : Nat) : Prop := ∃ tl, Blk w LB 25 ((List.range m).map V.v ++ tl)
theorem ListAt.lt {w : World} {LB : Nat} {V : Lists} {m : Nat} (h : ListAt w LB V m) : LB < w.heap.size := h.elim fun _ h => h.lt
theorem ListAt.grown {w w' : World} {LB : Nat} {V : Lists} {m : Nat} {row : Option Nat} (h : ListAt w LB V m) (hg : w.grownBy w' row) (hr : some LB ≠ row) : ListAt w' LB V m := h.elim fun tl h => ⟨tl, h.grown hg hr⟩
theorem ListAt.other {w : World} {LB : Nat} {V : Lists} {m : Nat} (h : ListAt w LB V m) {a : Addr} (ha : a.block ≠ LB) (v : Value) : ListAt (w.setCell a v) LB V m := h.elim fun tl h => ⟨tl, h.other ha v⟩
theorem ListAt.cell {w : World} {LB : Nat} {V : Lists} {m k : Nat} (h : ListAt w LB V m) (hk : k < m) : w.cell? ⟨LB, k, none⟩ = some (V.v k) := h.elim fun tl h => h.cell (by rw [List.getElem?_append_left (by simpa using hk)]; simp [hk])
/-- what the loops keep: the lists' own list, what the lists hold, and all else -/
structure FlatAt (V : Lists) (m LB : Nat) (w wr : World) (r : Nat → List Value) : Prop where
  own : Owns wr V m r
  list : ListAt wr LB V m
  kept : Kb (V.S m) w wr
theorem FlatAt.at {V : Lists} {m LB k : Nat} {w wr : World} {r : Nat → List Value} (h : FlatAt V m LB w wr r) (hk : k < m) : wr.cell? ⟨LB, k, none⟩ = some (.slice (V.A k) (V.n k) (V.C k)) :=
  h.list.cell hk
theorem FlatAt.congr {V : Lists} {m LB : Nat} {w wr : World} {r r' : Nat → List Value} (h : FlatAt V m LB w wr r) (e : ∀ j, j < m → r j = r' j) : FlatAt V m LB w wr r' := ⟨h.own.congr e, h.list, h.kept⟩
theorem FlatAt.drew {V : Lists} {m LB : Nat} {w wr : World} {r : Nat → List Value} (h : FlatAt V m LB w wr r) (n : Nat) : FlatAt V m LB w (wr.drewN n) r :=
  ⟨h.own.stay (gb_drewN (gb_refl _ _) n), h.list, kb_drewN h.kept n⟩
theorem FlatAt.stay {V : Lists} {m LB : Nat} {w wr w' : World} {r : Nat → List Value} (h : FlatAt V m LB w wr r) (hg : wr.grownBy w' none) : FlatAt V m LB w w' r :=
  ⟨h.own.stay hg, h.list.grown hg (by simp), kb_stay h.kept hg⟩
theorem rowAt_next (f : Nat → Nat → Nat) (V : Lists) (xs : Nat → List Value) (k j : Nat) (hl : (xs k).length = V.n k) : rowAt f V xs k (V.n k) j = rowAt f V xs (k + 1) 0 j := by
  unfold rowAt
  by_cases h1 : j < k
  · rw [if_pos h1, if_pos (by omega)]
  · rw [if_neg h1]
    by_cases h2 : j = k
    · subst h2; rw [if_pos rfl, if_pos (by omega), amid_end _ _ _ _ hl]
    · rw [if_neg h2, if_neg (by omega)]
      by_cases h3 : j = k + 1
      · rw [if_pos h3, h3, amid_start]
      · rw [if_neg h3]
theorem rowAt_set (f : Nat → Nat → Nat) (V : Lists) (xs : Nat → List Value) (k i j : Nat) (hi : i < (xs k).length) : rowAt f V xs k (i + 1) j = if j = k then (rowAt f V xs k i k).set i (tN (f k i)) else rowAt f V xs k i j := by
  unfold rowAt
  by_cases h2 : j = k
  · subst h2; simp only [Nat.lt_irrefl, if_false, if_pos]; rw [amid_set _ _ _ _ hi]
  · simp only [if_neg h2]
theorem rowAt_end (f : Nat → Nat → Nat) (V : Lists) (xs : Nat → List Value) (m j : Nat) (h : j < m) : rowAt f V xs m 0 j = mkV f j (V.n j) := by unfold rowAt; rw [if_pos h]
theorem rowAt_start (f : Nat → Nat → Nat) (V : Lists) (xs : Nat → List Value) (j : Nat) : rowAt f V xs 0 0 j = xs j := by
  unfold rowAt
  rw [if_neg (by omega)]
  by_cases h : j = 0
  · rw [if_pos h, amid_start, h]
  · rw [if_neg h]
theorem FlatAt.set {f : Nat → Nat → Nat} {V : Lists} {m LB k i g : Nat} {w wr : World} {xs : Nat → List Value} (hV : V.Apart m LB w.heap.size) (h : FlatAt V m LB w wr (rowAt f V xs k i)) (hk : k < m) (hi : i < (xs k).length) (hA : V.A k = some ⟨g, 0, none⟩) : FlatAt V m LB w (wr.setCell ⟨g, i, none⟩ (tN (f k i))) (rowAt f V xs k (i + 1)) := by
  have hg : V.g k = some g := by unfold Lists.g; rw [hA]; rfl
  refine ⟨h.own.set hV hk hA _ (fun j _ => rowAt_set f V xs k i j hi), h.list.other (fun e => hV.ls k hk (by rw [hg]; exact congrArg some e)) _, kb_then h.kept (gb_set (gb_refl _ (some g)) i _) (fun r e => Or.inl ?_)⟩
  cases e
  exact ⟨k, hk, hg⟩
theorem FlatAt.old {f : Nat → Nat → Nat} {V : Lists} {m LB k i g : Nat} {w wr : World} {xs : Nat → List Value} (h : FlatAt V m LB w wr (rowAt f V xs k i)) (hk : k < m) (hi : i < (xs k).length) (hA : V.A k = some ⟨g, 0, none⟩) : ∃ u, wr.cell? ⟨g, i, none⟩ = some u := by
  have := h.own k hk
  unfold Lists.v at this
  rw [hA] at this
  refine ⟨(xs k)[i], own_cell this ?_⟩
  unfold rowAt
  rw [if_neg (by omega), if_pos rfl]
  unfold amid
  rw [List.getElem?_append_right (by rw [mkV_length]; omega), mkV_length, Nat.sub_self, List.getElem?_drop, Nat.add_zero, List.getElem?_eq_getElem hi]
theorem FlatAt.free {V : Lists} {m LB k i g : Nat} {w wr : World} {r : Nat → List Value} (h : FlatAt V m LB w wr r) (hk : k < m) (hA : V.A k = some ⟨g, 0, none⟩) : wr.frozen? ⟨g, i, none⟩ = false := by
  have := h.own k hk
  unfold Lists.v at this
  rw [hA] at this
  exact own_free this i
end Ft
end Go.Proofs.YtmnlidfalhjghaaGreatDoor

/- The kit's flatTruths: lists that are appended to. -/
namespace Go.Proofs.YtmnlidfalhjghaaGreatDoor
open Go.RowKit Ow
namespace Ft

theorem info_slz : ∃ i, Tryz.prog.info? 25 = some i ∧ i.zero = some (.slice none 0 0) ∧ i.size = 1 ∧ i.bytes = 24 := by
  have h : (Tryz.prog.info? 25).map (fun i => (i.zero, i.size, i.bytes)) = some (some (.slice none 0 0), 1, 24) := by kernel_rfl
  cases hi : Tryz.prog.info? 25 with
  | none => rw [hi] at h; cases h
  | some i =>
    rw [hi] at h
    simp only [Option.map_some, Option.some.injEq, Prod.mk.injEq] at h
    exact ⟨i, rfl, h.1, h.2.1, h.2.2⟩
theorem made_nils (n : Nat) : madeCells (Value.slice none 0 0).cells n = (List.replicate n (Value.slice none 0 0)).toArray := by
  unfold madeCells
  apply Array.ext
  · simp
  · intro i h1 h2
    simp [Value.cells, Nat.mod_one]
/-- make([][]byte, n): a new block of nils -/
theorem make_nils (n : Nat) (w : World) (hn : n ≤ 100000) : ∃ w', (Instr.makeSlice 33 (.int .i64 n) (.int .i64 n)).run Tryz.prog w = .ok (.slice (some ⟨w.heap.size, 0, none⟩) n n) w' ∧
    w.grownBy w' none ∧ w'.heap.size = w.heap.size + 1 ∧ Blk w' w.heap.size 25 (List.replicate n (.slice none 0 0)) := by
  obtain ⟨i, hi, hz, hs, hb⟩ := info_slz
  have h2 := run_make (P := Tryz.prog) w 33 25 i (.slice none 0 0) Tryz.underlying33 hi hz .i64 .i64 n n (by omega) (by omega) (by rw [hb]; omega) (by omega)
  rw [hs, Nat.mul_one, Int.toNat_natCast, made_nils] at h2
  exact ⟨_, h2, gb_alloc (gb_refl _ _) _, by simp, Blk.new w _ _⟩
/-- a list that began as list k: in its place, or in a block made since -/
def Grew (V : Lists) (k sz n : Nat) (v : Value) : Prop := v = .slice (V.A k) n (V.C k) ∨ ∃ g c, v = .slice (some ⟨g, 0, none⟩) n c ∧ sz ≤ g
/-- an append to such a list: all lists stay -/
theorem flat_append {V : Lists} {m LB k : Nat} {w wk wr : World} {r : Nat → List Value} (hV : V.Apart m LB w.heap.size) (hLB : LB < w.heap.size) (hw : w.heap.size ≤ wk.heap.size) (hF : FlatAt V m LB w wr r) (hK : Kb (fun i => V.g k = some i) wk wr) (hk : k < m) (v : Value) (n : Nat) (xs : List Value) (hn : V.n k ≤ n)
    (hown : wr.ownsRow 0 4 1 v n xs) (hx : xs.take (V.n k) = r k) (hsh : Grew V k wk.heap.size n v) (ad : Addr) (q cc : Nat) (news : List Value) (hq : 0 < q) (hl : news.length = q) (hnews : ∀ j u, news[j]? = some u → wr.cell? (ad.add j) = some u) (h1 : ∀ u ∈ news, u.oneCell' = true) (hb : n + q ≤ 200000) :
    ∃ v' w', (Builtin.append_ #[25, 25] 25 #[v, .slice (some ad) q cc]).run Tryz.prog wr = .ok v' w' ∧ FlatAt V m LB w w' r ∧ Kb (fun i => V.g k = some i) wk w' ∧ w'.ownsRow 0 4 1 v' (n + q) (xs ++ news) ∧ Grew V k wk.heap.size (n + q) v' := by
  have hxl : xs.length = n := by have := hown.1; omega
  rcases own_shape hown with ⟨rfl, rfl⟩ | ⟨g, c, rfl⟩
  · obtain ⟨g, c', w', hr, ho, hg⟩ := append_to_none elt_b wr ad q cc news hq hl hnews h1 (by omega) (by omega)
    have := own_lt ho
    have hs := hK.size
    obtain rfl : xs = [] := List.eq_nil_of_length_eq_zero hxl
    rw [Nat.zero_add, List.nil_append]
    exact ⟨_, w', hr, hF.stay hg, kb_stay hK hg, own_rebase ho (by omega), Or.inr ⟨g, c', rfl, by omega⟩⟩
  · rcases append_cases elt_b wr 0 g n c xs hown ad q cc news hl hnews h1 (by omega) (by omega) with ⟨_, w', hr, ho, hg⟩ | ⟨_, c', w', hr, ho, hg⟩
    · rcases hsh with e | ⟨g', c', e, hgw⟩
      · obtain ⟨hA, hC⟩ : V.A k = some ⟨g, 0, none⟩ ∧ V.C k = c := ⟨(Value.slice.inj e).1.symm, (Value.slice.inj e).2.2.symm⟩
        have hgk : V.g k = some g := by unfold Lists.g; rw [hA]; rfl
        refine ⟨_, w', hr, ⟨fun j hj => ?_, hF.list.grown hg (fun e => hV.ls k hk (by rw [hgk, ← e])), kb_then hF.kept hg (fun r e => by cases e; exact Or.inl ⟨k, hk, hgk⟩)⟩, kb_then hK hg (fun r e => by cases e; exact Or.inl hgk), ho, Or.inl (by rw [hA, hC])⟩
        by_cases ej : j = k
        · subst ej
          have h := own_take ho (n := V.n j) (by omega)
          rw [List.take_append_of_le_length (by omega), hx] at h
          unfold Lists.v
          rw [hA, hC]
          exact h
        · exact (hF.own j hj).kept hg (by rw [V.own_block, ← hgk]; exact hV.apart j k hj hk ej)
      · cases e
        refine ⟨_, w', hr, ⟨fun j hj => (hF.own j hj).kept hg ?_, hF.list.grown hg (fun e => by cases e; omega), kb_then hF.kept hg (fun r e => by cases e; exact Or.inr (by omega))⟩, kb_then hK hg (fun r e => by cases e; exact Or.inr (by omega)), ho, Or.inr ⟨g, c, rfl, hgw⟩⟩
        rw [V.own_block]
        cases e : V.g j with
        | none => exact Or.inl rfl
        | some i => exact Or.inr (fun e' => by cases e'; have := hV.old j hj _ e; omega)
    · have := hK.size
      exact ⟨_, w', hr, hF.stay hg, kb_stay hK hg, own_rebase ho (by omega), Or.inr ⟨_, c', rfl, by omega⟩⟩
/-- a grown list, filed away: where it lies, what it holds -/
def GOne (f : Nat → Nat → Nat) (V : Lists) (GB : Nat) (wr : World) (j : Nat) (v : Value) : Prop :=
  ∃ g c, v = .slice (some ⟨g, 0, none⟩) (V.n j + 64) c ∧ (V.g j = some g ∨ GB < g) ∧ g < wr.heap.size ∧ V.n j + 64 ≤ c ∧ ∀ i, i < V.n j + 64 → wr.cell? ⟨g, i, none⟩ = some (tN (f j i))
theorem GOne.kb {f : Nat → Nat → Nat} {V : Lists} {m LB GB top j : Nat} {wk wr : World} {v : Value} {S : Nat → Prop} (h : GOne f V GB wk j v) (hV : V.Apart m LB top) (hj : j < m) (ht : top ≤ GB) (hK : Kb S wk wr) (hS : ∀ i, S i → i = GB ∨ ∃ k, k < m ∧ k ≠ j ∧ V.g k = some i) : GOne f V GB wr j v := by
  obtain ⟨g, c, rfl, hg, hlt, hc, hcell⟩ := h
  refine ⟨g, c, rfl, hg, Nat.lt_of_lt_of_le hlt hK.size, hc, fun i hi => ?_⟩
  rw [hK.cell (p := ⟨g, i, none⟩) hlt (fun hs => ?_)]
  · exact hcell i hi
  · rcases hS g hs with e | ⟨k, hk, hkj, e⟩
    · rcases hg with h1 | h1
      · have := hV.old j hj g h1; omega
      · omega
    · rcases hg with h1 | h1
      · rcases hV.apart k j hk hj hkj with h2 | h2
        · rw [h2] at e; cases e
        · exact h2 (by rw [e, h1])
      · have := hV.old k hk g e; omega
/-- a list grown by 64 marks is such a one -/
theorem GOne.of {f : Nat → Nat → Nat} {V : Lists} {GB sz k : Nat} {wr : World} {v : Value} (ho : wr.ownsRow 0 4 1 v (V.n k + 64) (mkV f k (V.n k + 64))) (hg : Grew V k sz (V.n k + 64) v) (hs : GB < sz) : GOne f V GB wr k v := by
  obtain ⟨g, c, rfl, _, hnc, _, hlt⟩ := own_some ho (by omega)
  refine ⟨g, c, rfl, ?_, hlt, hnc, fun i hi => own_cell ho (mkV_get f k _ i hi)⟩
  rcases hg with e | ⟨g', c', e, h⟩
  · refine Or.inl ?_
    unfold Lists.g
    cases hA : V.A k with
    | none => rw [hA] at e; cases e
    | some a => rw [hA] at e; cases e; rfl
  · cases e
    exact Or.inr (by omega)
/-- the first k filed, of m -/
def filed (vs : Nat → Value) (k m : Nat) : List Value := (List.range k).map vs ++ List.replicate (m - k) (.slice none 0 0)
theorem filed_start (vs : Nat → Value) (m : Nat) : filed vs 0 m = List.replicate m (.slice none 0 0) := by simp [filed]
theorem filed_end (vs : Nat → Value) (m : Nat) : filed vs m m = (List.range m).map vs := by simp [filed]
theorem filed_nil (vs : Nat → Value) (k m : Nat) (h : k < m) : (filed vs k m)[k]? = some (.slice none 0 0) := by
  unfold filed
  rw [List.getElem?_append_right (by simp), List.length_map, List.length_range, Nat.sub_self, List.getElem?_replicate, if_pos (by omega)]
theorem filed_set (vs : Nat → Value) (k m : Nat) (v : Value) (h : k < m) : (filed vs k m).set k v = filed (fun j => if j = k then v else vs j) (k + 1) m := by
  unfold filed
  rw [List.set_append_right _ _ (by simp), List.length_map, List.length_range, Nat.sub_self, show m - k = (m - (k + 1)) + 1 by omega, List.replicate_succ, List.set_cons_zero, List.range_succ, List.map_append, List.append_assoc]
  congr 1
  · apply List.map_congr_left
    intro j hj
    have := List.mem_range.1 hj
    rw [if_neg (by omega)]
  · simp
/-- all lists as they were marked; the first k grown ones filed in block GB -/
structure Filed (f : Nat → Nat → Nat) (V : Lists) (m LB GB : Nat) (w wr : World) (r : Nat → List Value) (vs : Nat → Value) (k : Nat) : Prop where
  flat : FlatAt V m LB w wr r
  block : Blk wr GB 25 (filed vs k m)
  ones : ∀ j, j < k → GOne f V GB wr j (vs j)
theorem Filed.stay {f : Nat → Nat → Nat} {V : Lists} {m LB GB : Nat} {w wr w' : World} {r : Nat → List Value} {vs : Nat → Value} {k : Nat} (h : Filed f V m LB GB w wr r vs k) (hg : wr.grownBy w' none) : Filed f V m LB GB w w' r vs k := by
  refine ⟨h.flat.stay hg, h.block.grown hg (by simp), fun j hj => ?_⟩
  obtain ⟨g, c, e, h1, h2, h3, h4⟩ := h.ones j hj
  exact ⟨g, c, e, h1, Nat.lt_of_lt_of_le h2 hg.size, h3, fun i hi => by rw [gb_cell hg (p := ⟨g, i, none⟩) h2 (by simp)]; exact h4 i hi⟩
theorem Filed.drew {f : Nat → Nat → Nat} {V : Lists} {m LB GB : Nat} {w wr : World} {r : Nat → List Value} {vs : Nat → Value} {k : Nat} (h : Filed f V m LB GB w wr r vs k) (n : Nat) : Filed f V m LB GB w (wr.drewN n) r vs k := h.stay (gb_drewN (gb_refl _ _) n)
/-- list k grown, and filed -/
theorem Filed.next {f : Nat → Nat → Nat} {V : Lists} {m LB GB : Nat} {w wk wr : World} {r : Nat → List Value} {vs : Nat → Value} {k : Nat} {v : Value} (hV : V.Apart m LB w.heap.size) (hLB : LB < w.heap.size) (hk : k < m) (hGB : w.heap.size ≤ GB) (h : Filed f V m LB GB w wk r vs k) (hF : FlatAt V m LB w wr r) (hK : Kb (fun i => V.g k = some i) wk wr)
    (ho : wr.ownsRow 0 4 1 v (V.n k + 64) (mkV f k (V.n k + 64))) (hg : Grew V k wk.heap.size (V.n k + 64) v) :
    wr.cell? ⟨GB, k, none⟩ = some (.slice none 0 0) ∧ wr.frozen? ⟨GB, k, none⟩ = false ∧ Filed f V m LB GB w (wr.setCell ⟨GB, k, none⟩ v) r (fun j => if j = k then v else vs j) (k + 1) := by
  have hb : Blk wr GB 25 (filed vs k m) := hK.blk h.block (fun e => by have := hV.old k hk _ e; omega)
  have hlt := h.block.lt
  have hs : Kb (fun i => i = GB) wr (wr.setCell ⟨GB, k, none⟩ v) := kb_then (kb_refl _ _) (gb_set (gb_refl wr (some GB)) k v) (fun r e => by cases e; exact Or.inl rfl)
  have hgs : wr.grownBy (wr.setCell ⟨GB, k, none⟩ v) (some GB) := gb_set (gb_refl wr (some GB)) k v
  refine ⟨hb.cell (filed_nil vs k m hk), hb.free k, ⟨hF.own.kept hgs (fun j hj => ?_), hF.list.grown hgs (fun e => by cases e; omega), kb_then hF.kept hgs (fun r e => by cases e; exact Or.inr hGB)⟩, by rw [← filed_set vs k m v hk]; exact hb.set k v, fun j hj => ?_⟩
  · cases e : V.g j with
    | none => exact Or.inl rfl
    | some i => exact Or.inr (fun e' => by cases e'; have := hV.old j hj _ e; omega)
  · by_cases e : j = k
    · subst e
      simp only [if_true]
      exact (GOne.of ho hg hlt).kb hV hk hGB hs (fun i hi => Or.inl hi)
    · simp only [if_neg e]
      exact ((h.ones j (by omega)).kb hV (by omega) hGB hK (fun i hi => Or.inr ⟨k, hk, fun e' => e e'.symm, hi⟩)).kb hV (by omega) hGB hs (fun i hi => Or.inl hi)
/-- the filed list j, once all are -/
theorem Filed.at {f : Nat → Nat → Nat} {V : Lists} {m LB GB : Nat} {w wr : World} {r : Nat → List Value} {vs : Nat → Value} (h : Filed f V m LB GB w wr r vs m) {j : Nat} (hj : j < m) :
    ∃ g c, vs j = .slice (some ⟨g, 0, none⟩) (V.n j + 64) c ∧ wr.cell? ⟨GB, j, none⟩ = some (.slice (some ⟨g, 0, none⟩) (V.n j + 64) c) ∧ (∀ i, i < V.n j + 64 → wr.cell? ⟨g, i, none⟩ = some (tN (f j i))) ∧ V.n j + 64 ≤ c := by
  obtain ⟨g, c, e, _, _, h3, h4⟩ := h.ones j hj
  refine ⟨g, c, e, h.block.cell ?_, h4, h3⟩
  rw [filed_end, ← e]
  simp [hj]
/-- a mark of a list -/
theorem FlatAt.mark {f : Nat → Nat → Nat} {V : Lists} {m LB k i : Nat} {w wr : World} (h : FlatAt V m LB w wr (fun j => mkV f j (V.n j))) (hk : k < m) (hi : i < V.n k) : ∃ g, V.A k = some ⟨g, 0, none⟩ ∧ wr.cell? ⟨g, i, none⟩ = some (tN (f k i)) := by
  obtain ⟨g, hA, _⟩ := h.own.some hk (by omega)
  have := h.own k hk
  unfold Lists.v at this
  rw [hA] at this
  exact ⟨g, hA, own_cell this (mkV_get f k _ i hi)⟩
theorem _root_.Go.Proofs.YtmnlidfalhjghaaGreatDoor.Ft.blk_get {w : World} {B : Nat} {T : TypeId} {L : List Value} (h : Blk w B T L) {i : Nat} (hi : i < L.length) : ∃ u, w.cell? ⟨B, i, none⟩ = some u := ⟨L[i], h.cell (List.getElem?_eq_getElem hi)⟩
theorem amid_get (f : Nat → Nat → Nat) (k i : Nat) (xs : List Value) (h : i < xs.length) : i < (amid f k i xs).length := by
  unfold amid; rw [List.length_append, mkV_length, List.length_drop]; omega
/-- a list whose marks are still there -/
def GTwo (f : Nat → Nat → Nat) (V : Lists) (GB : Nat) (wr : World) (j : Nat) (v : Value) : Prop :=
  ∃ g c, v = .slice (some ⟨g, 0, none⟩) (V.n j + 64) c ∧ (V.g j = some g ∨ GB < g) ∧ g < wr.heap.size ∧ V.n j + 64 ≤ c ∧ ∀ i, i < V.n j → wr.cell? ⟨g, i, none⟩ = some (tN (f j i))
theorem GTwo.kb {f : Nat → Nat → Nat} {V : Lists} {m LB GB top j : Nat} {wk wr : World} {v : Value} {S : Nat → Prop} (h : GTwo f V GB wk j v) (hV : V.Apart m LB top) (hj : j < m) (ht : top ≤ GB) (hK : Kb S wk wr) (hS : ∀ i, S i → i = GB ∨ ∃ k, k < m ∧ k ≠ j ∧ V.g k = some i) : GTwo f V GB wr j v := by
  obtain ⟨g, c, rfl, hg, hlt, hc, hcell⟩ := h
  refine ⟨g, c, rfl, hg, Nat.lt_of_lt_of_le hlt hK.size, hc, fun i hi => ?_⟩
  rw [hK.cell (p := ⟨g, i, none⟩) hlt (fun hs => ?_)]
  · exact hcell i hi
  · rcases hS g hs with e | ⟨k, hk, hkj, e⟩
    · rcases hg with h1 | h1
      · have := hV.old j hj g h1; omega
      · omega
    · rcases hg with h1 | h1
      · rcases hV.apart k j hk hj hkj with h2 | h2
        · rw [h2] at e; cases e
        · exact h2 (by rw [e, h1])
      · have := hV.old k hk g e; omega
theorem GTwo.of {f : Nat → Nat → Nat} {V : Lists} {GB sz k : Nat} {wr : World} {v : Value} {ys : List Value} (ho : wr.ownsRow 0 4 1 v (V.n k + 64) (mkV f k (V.n k) ++ ys)) (hg : Grew V k sz (V.n k + 64) v) (hs : GB < sz) : GTwo f V GB wr k v := by
  obtain ⟨g, c, rfl, _, hnc, _, hlt⟩ := own_some ho (by omega)
  refine ⟨g, c, rfl, ?_, hlt, hnc, fun i hi => own_cell ho (by rw [List.getElem?_append_left (by rw [mkV_length]; exact hi)]; exact mkV_get f k _ i hi)⟩
  rcases hg with e | ⟨g', c', e, h⟩
  · refine Or.inl ?_
    unfold Lists.g
    cases hA : V.A k with
    | none => rw [hA] at e; cases e
    | some a => rw [hA] at e; cases e; rfl
  · cases e
    exact Or.inr (by omega)
/-- filed again, the first k -/
structure Again (f : Nat → Nat → Nat) (V : Lists) (m LB GB : Nat) (w wr : World) (r : Nat → List Value) (L : List Value) (k : Nat) : Prop where
  flat : FlatAt V m LB w wr r
  block : Blk wr GB 25 L
  len : L.length = m
  ones : ∀ j, j < k → ∃ v, L[j]? = some v ∧ GTwo f V GB wr j v
theorem Filed.again {f : Nat → Nat → Nat} {V : Lists} {m LB GB : Nat} {w wr : World} {r : Nat → List Value} {vs : Nat → Value} {k : Nat} (h : Filed f V m LB GB w wr r vs k) (hk : k ≤ m) : Again f V m LB GB w wr r (filed vs k m) 0 :=
  ⟨h.flat, h.block, by simp [filed]; omega, fun j hj => by omega⟩
theorem Again.stay {f : Nat → Nat → Nat} {V : Lists} {m LB GB : Nat} {w wr w' : World} {r : Nat → List Value} {L : List Value} {k : Nat} (h : Again f V m LB GB w wr r L k) (hg : wr.grownBy w' none) : Again f V m LB GB w w' r L k := by
  refine ⟨h.flat.stay hg, h.block.grown hg (by simp), h.len, fun j hj => ?_⟩
  obtain ⟨v, hv, g, c, e, h1, h2, h3, h4⟩ := h.ones j hj
  exact ⟨v, hv, g, c, e, h1, Nat.lt_of_lt_of_le h2 hg.size, h3, fun i hi => by rw [gb_cell hg (p := ⟨g, i, none⟩) h2 (by simp)]; exact h4 i hi⟩
theorem Again.drew {f : Nat → Nat → Nat} {V : Lists} {m LB GB : Nat} {w wr : World} {r : Nat → List Value} {L : List Value} {k : Nat} (h : Again f V m LB GB w wr r L k) (n : Nat) : Again f V m LB GB w (wr.drewN n) r L k := h.stay (gb_drewN (gb_refl _ _) n)
theorem Again.next {f : Nat → Nat → Nat} {V : Lists} {m LB GB : Nat} {w wk wr : World} {r : Nat → List Value} {L ys : List Value} {k : Nat} {v : Value} (hV : V.Apart m LB w.heap.size) (hLB : LB < w.heap.size) (hk : k < m) (hGB : w.heap.size ≤ GB) (h : Again f V m LB GB w wk r L k) (hF : FlatAt V m LB w wr r) (hK : Kb (fun i => V.g k = some i) wk wr)
    (ho : wr.ownsRow 0 4 1 v (V.n k + 64) (mkV f k (V.n k) ++ ys)) (hg : Grew V k wk.heap.size (V.n k + 64) v) :
    (∃ u, wr.cell? ⟨GB, k, none⟩ = some u) ∧ wr.frozen? ⟨GB, k, none⟩ = false ∧ Again f V m LB GB w (wr.setCell ⟨GB, k, none⟩ v) r (L.set k v) (k + 1) := by
  have hb : Blk wr GB 25 L := hK.blk h.block (fun e => by have := hV.old k hk _ e; omega)
  have hlt := h.block.lt
  have hll := h.len
  have hs : Kb (fun i => i = GB) wr (wr.setCell ⟨GB, k, none⟩ v) := kb_then (kb_refl _ _) (gb_set (gb_refl wr (some GB)) k v) (fun r e => by cases e; exact Or.inl rfl)
  have hgs : wr.grownBy (wr.setCell ⟨GB, k, none⟩ v) (some GB) := gb_set (gb_refl wr (some GB)) k v
  refine ⟨blk_get hb (by omega), hb.free k, ⟨hF.own.kept hgs (fun j hj => ?_), hF.list.grown hgs (fun e => by cases e; omega), kb_then hF.kept hgs (fun r e => by cases e; exact Or.inr hGB)⟩, hb.set k v, by rw [List.length_set]; exact hll, fun j hj => ?_⟩
  · cases e : V.g j with
    | none => exact Or.inl rfl
    | some i => exact Or.inr (fun e' => by cases e'; have := hV.old j hj _ e; omega)
  · by_cases e : j = k
    · subst e
      exact ⟨v, by rw [List.getElem?_set_self (by omega)], (GTwo.of ho hg hlt).kb hV hk hGB hs (fun i hi => Or.inl hi)⟩
    · obtain ⟨u, hu, h2⟩ := h.ones j (by omega)
      exact ⟨u, by rw [List.getElem?_set_ne (fun e' => e e'.symm)]; exact hu, (h2.kb hV (by omega) hGB hK (fun i hi => Or.inr ⟨k, hk, fun e' => e e'.symm, hi⟩)).kb hV (by omega) hGB hs (fun i hi => Or.inl hi)⟩
theorem Again.at {f : Nat → Nat → Nat} {V : Lists} {m LB GB : Nat} {w wr : World} {r : Nat → List Value} {L : List Value} (h : Again f V m LB GB w wr r L m) {j : Nat} (hj : j < m) :
    ∃ g c, wr.cell? ⟨GB, j, none⟩ = some (.slice (some ⟨g, 0, none⟩) (V.n j + 64) c) ∧ (∀ i, i < V.n j → wr.cell? ⟨g, i, none⟩ = some (tN (f j i))) ∧ V.n j + 64 ≤ c := by
  obtain ⟨v, hv, g, c, rfl, _, _, h3, h4⟩ := h.ones j hj
  exact ⟨g, c, h.block.cell hv, h4, h3⟩
end Ft
end Go.Proofs.YtmnlidfalhjghaaGreatDoor

/- The kit's bag: lists of truths put into it. -/
namespace Go.Proofs.YtmnlidfalhjghaaGreatDoor
open Go.RowKit Ow
namespace Ft

theorem elt_slz : Elt 25 33 24 (.slice none 0 0) := ⟨Tryz.underlying33, by
  obtain ⟨i, hi, hz, hs, hb⟩ := info_slz
  exact ⟨i, hi, hz, hs, hb, rfl⟩⟩
/-- a bag's cells, lists of truths alone in it -/
def bagL (v : Value) : List Value := List.replicate 6 (.slice none 0 0) ++ v :: List.replicate 17 (.slice none 0 0)
theorem bagL_five (v : Value) : (bagL v)[6]? = some v := rfl
theorem bagL_set (u v : Value) : (bagL u).set 6 v = bagL v := rfl
theorem bagL_nil (v : Value) (i : Nat) (h : i < 24) (h5 : i ≠ 6) : (bagL v)[i]? = some (.slice none 0 0) := by
  unfold bagL
  rcases Nat.lt_or_ge i 6 with h' | h'
  · rw [List.getElem?_append_left (by simpa using h'), List.getElem?_replicate, if_pos h']
  · rw [List.getElem?_append_right (by simpa using h'), List.length_replicate, show i - 6 = (i - 7) + 1 by omega, List.getElem?_cons_succ, List.getElem?_replicate, if_pos (by omega)]
/-- an append to a list of lists of one's own -/
theorem append_list (w : World) (base k : Nat) (v0 l : Value) (rows : List Value) (b : Nat) (hown : w.ownsRow base 25 1 v0 k rows) (hl : w.cell? ⟨b, 0, none⟩ = some l) (h1 : l.oneCell' = true) (hk : k ≤ 100000) (hb : base ≤ w.heap.size) :
    ∃ v' w', (Builtin.append_ #[33, 33] 33 #[v0, .slice (some ⟨b, 0, none⟩) 1 1]).run Tryz.prog w = .ok v' w' ∧ w'.ownsRow base 25 1 v' (k + 1) (rows ++ [l]) ∧ w.grownBy w' v0.ownBlock := by
  obtain ⟨i, hi, hz, hs, hby, hzc⟩ := elt_slz.info
  obtain ⟨v', w', hr, ho, hg, _⟩ := run_append_own w base 33 33 25 i (.slice none 0 0) 1 24 (P := Tryz.prog) elt_slz.sl hi hz hs hby hzc (by decide) v0 k rows hown ⟨b, 0, none⟩ 1 1 [l] rfl (fun j u hu => by
    cases j with
    | zero =>
      have e : (⟨b, 0, none⟩ : Addr).add 0 = ⟨b, 0, none⟩ := by unfold Addr.add; split <;> simp_all
      rw [e, hl]; exact hu
    | succ j => simp at hu) (fun u hu => by simp at hu; subst hu; exact h1) (by unfold maxLen; omega) (by omega) hb
  exact ⟨v', w', hr, ho, hg⟩
set_option maxHeartbeats 1000000 in
theorem put_truths (w : World) (base B k n c : Nat) (T : TypeId) (hT : T ≠ 25) (v0 : Value) (a : Option Addr) (rows : List Value) (hown : w.ownsRow base 25 1 v0 k rows) (hB : Blk w B T (bagL v0)) (hk : k ≤ 100000) (hb : base ≤ w.heap.size) :
    Calls Tryz.prog 34 #[.pointer (some ⟨B, 0, none⟩), .slice a n c] w fun e w' => (∃ r, e = .returned r) ∧ ∃ v', w'.ownsRow base 25 1 v' (k + 1) (rows ++ [.slice a n c]) ∧ Blk w' B T (bagL v') ∧ Kb (fun i => i = B ∨ v0.ownBlock = some i) w w' := by
  have apart : ∀ (W : World) (v : Value) (j : Nat) (rs : List Value) (u : Value), W.ownsRow base 25 1 v j rs → Blk W B T (bagL u) → some B ≠ v.ownBlock := by
    intro W v j rs u ho hb e
    rcases ho.2 with ⟨h0, _⟩ | ⟨g, c, cur, e1, _, hg, _⟩
    · rw [h0] at e; cases e
    · rw [e1] at e
      have e2 : B = g := by simpa [Value.ownBlock] using e
      subst e2
      unfold Blk at hb
      rw [hb] at hg
      cases hg
      exact hT rfl
  have hgb := World.grownBy_alloc w (.cells #[.slice a n c] 25) none
  obtain ⟨v', w4, hap, ho4, hg4⟩ := append_list (w.alloc (.cells #[.slice a n c] 25)) base k v0 (.slice a n c) rows w.heap.size (hown.alloc _) ((Blk.new w [.slice a n c] 25).cell rfl) rfl hk (Nat.le_trans hb hgb.size)
  have hbv := apart w v0 k rows v0 hown hB
  have hB4 : Blk w4 B T (bagL v0) := (hB.alloc _).grown hg4 hbv
  have hbv4 := apart w4 v' (k + 1) _ v0 ho4 hB4
  obtain ⟨g, c', rfl, _⟩ := own_some ho4 (by omega)
  have c5 := hB.cell (bagL_five v0)
  have c54 := hB4.cell (bagL_five v0)
  have f5 := hB4.free 6
  have hgs : w4.grownBy (w4.setCell ⟨B, 6, none⟩ (.slice (some ⟨g, 0, none⟩) (k + 1) c')) (some B) := gb_set (gb_refl _ (some B)) 6 _
  have hB5 := hB4.set 6 (.slice (some ⟨g, 0, none⟩) (k + 1) c')
  rw [bagL_set] at hB5
  have ho5 := ho4.kept hgs (Or.inr (fun e => hbv4 e.symm))
  have hK : Kb (fun i => i = B ∨ v0.ownBlock = some i) w (w4.setCell ⟨B, 6, none⟩ (.slice (some ⟨g, 0, none⟩) (k + 1) c')) :=
    kb_then (kb_then (kb_stay (kb_refl _ _) hgb) hg4 (fun r e => Or.inl (Or.inr e))) hgs (fun r e => Or.inl (Or.inl (by cases e; rfl)))
  have HI := Lib.hid (And.intro ho5 (And.intro hB5 hK)); clear ho5 hB5 hK hgs hbv4 hB4 hbv ho4 hg4 hgb hB apart
  obtain ⟨a0, c0, rfl⟩ : ∃ a0 c0, v0 = .slice a0 k c0 := by
    rcases own_shape hown with ⟨rfl, rfl⟩ | ⟨g, c, rfl⟩
    · exact ⟨_, _, rfl⟩
    · exact ⟨_, _, rfl⟩
  clear hown
  go_enter Tryz.func34, Tryz.ntmps34
  go_wp2_with (at_builtin; refine wpList_append_run rfl (.tmp 8) (.tmp 10) 33 rfl rfl _ _ rfl rfl _ _ hap ?_)
  go_end0
  exact ⟨⟨_, rfl⟩, _, HI.out⟩
end Ft
end Go.Proofs.YtmnlidfalhjghaaGreatDoor

/- The kit's flatTruths, walked: marks laid. -/
namespace Go.Proofs.YtmnlidfalhjghaaGreatDoor
open Go.RowKit Ow
namespace Ft

set_option maxRecDepth 100000 in
set_option maxHeartbeats 4000000 in
theorem flatT_any {f : Nat → Nat → Nat} (hf : MarksT f) (V : Lists) (m LB C : Nat) (xs : Nat → List Value) (w : World) (hm : m ≤ 70000) (hC : m ≤ C) (hC2 : C < 9223372036854775808) (hV : V.Apart m LB w.heap.size) (hO : Owns w V m xs) (hL : ListAt w LB V m) :
    Calls Tryz.prog 50 #[.slice (some ⟨LB, 0, none⟩) m C] w fun e w' => e = .returned (.bool true) ∧ FlatAt V m LB w w' (fun j => mkV f j (V.n j)) := by
  have HL := Lib.hid (fun j hj => (by have := (hO j hj).1; omega) : ∀ j, j < m → (xs j).length = V.n j)
  have hF : FlatAt V m LB w w (rowAt f V xs 0 0) := ⟨hO.congr (fun j _ => (rowAt_start f V xs j).symm), hL, kb_refl _ _⟩
  have HF := Lib.hid hf; clear hf
  have HV := Lib.hid hV; clear hV
  have H0 := Lib.hid hF; clear hF hO hL
  go_enter Tryz.func50, Tryz.ntmps50
  go_wp2_with fail
  go_loopw [3] (fun i wr => ∃ k : Nat, k ≤ m ∧ i = .int .i64 k ∧ FlatAt V m LB w wr (rowAt f V xs k 0)) (fun i _ => m - (intOf i).toNat)
  case atStart => exact ⟨0, by omega, rfl, H0.out⟩
  case round =>
    obtain ⟨k, hk, rfl, hR⟩ := hrel
    by_cases hlt : k < m
    · have i1 : (k : Int) < (m : Int) := by omega
      have HR := Lib.hid hR; clear hR
      go_wp2_with fail
      go_loopw [4] (fun i wr => ∃ j : Nat, j ≤ V.n k ∧ i = .int .i64 j ∧ FlatAt V m LB w wr (rowAt f V xs k j)) (fun i _ => V.n k - (intOf i).toNat)
      case atStart => exact ⟨0, by omega, rfl, HR.out⟩
      case round =>
        obtain ⟨j, hj, rfl, hR2⟩ := hrel
        have kc := hR2.at hlt
        by_cases hjn : j < V.n k
        · obtain ⟨g, hA, hg⟩ := hR2.own.some hlt (by omega)
          have hset := hR2.set HV.out hlt (by rw [HL.out k hlt]; exact hjn) hA
          have hfr := hR2.free (i := j) hlt hA
          obtain ⟨u, hu⟩ := hR2.old hlt (by rw [HL.out k hlt]; exact hjn) hA
          have hsm := HV.out.small k hlt
          rw [hA] at kc
          have HI := Lib.hid (And.intro hset hg); clear hset hg hA hR2
          have hmb := fun W => HF.out.run k j k j W rfl rfl (by omega) (by omega)
          generalize hnk : V.n k = nk at *
          generalize V.C k = ck at *
          have HN := Lib.hid hnk; clear hnk
          generalize hy : f k j = y at *
          have HY := Lib.hid hy; clear hy
          have HMB := Lib.hid hmb; clear hmb
          have i2 : (j : Int) < (nk : Int) := by omega
          unfold tN at HI
          go_wp2_with fail
          go_region_with (go_at_call 37; refine (HMB.out _).mono ?_; rintro e w' ⟨rfl, rfl⟩)
          all_goals go_wp2
          all_goals go_roundw
          case rel => exact ⟨j + 1, hjn, by go_num, HI.out.1.drew 1⟩
          case measure => simp [intOf]; omega
          case rel => exact ⟨j + 1, hjn, by go_num, HI.out.1.drew 1⟩
          case measure => simp [intOf]; omega
        · obtain rfl : j = V.n k := by omega
          have hR3 := hR2.congr (fun j _ => rowAt_next f V xs k j (HL.out k hlt))
          have HI := Lib.hid hR3; clear hR3 hR2
          generalize hnk : V.n k = nk at *
          generalize V.C k = ck at *
          have HN := Lib.hid hnk; clear hnk
          go_wp2_with fail
          go_roundw
          case rel => exact ⟨k + 1, hlt, by go_num, HI.out⟩
          case measure => simp [intOf]; omega
    · obtain rfl : k = m := by omega
      have hR1 := hR.congr (r' := fun j => mkV f j (V.n j)) (fun j hj => rowAt_end f V xs k j hj)
      have hLB := H0.out.list.lt
      obtain ⟨w3, hmk, hg3, hs3, hb3⟩ := make_nils k wr (by omega)
      have hF3 : Filed f V k LB wr.heap.size w w3 (fun j => mkV f j (V.n j)) (fun _ => .slice none 0 0) 0 := ⟨hR1.stay hg3, by rw [filed_start]; exact hb3, fun j hj => by omega⟩
      have hGB : w.heap.size ≤ wr.heap.size := hR1.kept.size
      generalize hB : wr.heap.size = GB at *
      have HG := Lib.hid (And.intro hGB hLB); clear hGB hLB hg3 hs3 hb3 hB hR hR1
      have H3 := Lib.hid hF3; clear hF3
      go_wp2_with fail
      clear hmk
      go_loopw [6] (fun i wr => ∃ (k' : Nat) (vs : Nat → Value), k' ≤ k ∧ i = .int .i64 k' ∧ Filed f V k LB GB w wr (fun j => mkV f j (V.n j)) vs k') (fun i _ => k - (intOf i).toNat)
      case atStart => exact ⟨0, _, by omega, rfl, H3.out⟩
      case round =>
        clear H3
        obtain ⟨q, vs, hq, rfl, hR⟩ := hrel
        by_cases hlt : q < k
        · have i1 : (q : Int) < (k : Int) := by omega
          have kc := hR.flat.at hlt
          have hsm := HV.out.small q hlt
          have HR := Lib.hid hR; clear hR
          go_wp2_with fail
          go_loopw [7, 8] (fun v i wr2 => ∃ t : Nat, t ≤ 64 ∧ i = .int .i64 t ∧ FlatAt V k LB w wr2 (fun j => mkV f j (V.n j)) ∧ Kb (fun i => V.g q = some i) wr wr2 ∧ wr2.ownsRow 0 4 1 v (V.n q + t) (mkV f q (V.n q + t)) ∧ Grew V q wr.heap.size (V.n q + t) v) (fun _ i _ => 64 - (intOf i).toNat)
          case atStart => exact ⟨0, by omega, rfl, HR.out.flat, kb_refl _ _, HR.out.flat.own q hlt, Or.inl rfl⟩
          case round =>
            obtain ⟨t, ht, rfl, hF2, hK2, ho2, hg2⟩ := hrel
            have kc := hF2.at hlt
            by_cases ht6 : t < 64
            · obtain ⟨y, hy⟩ : ∃ y, y = f q (V.n q + t) := ⟨_, rfl⟩
              have hgb := World.grownBy_alloc wr (.cells #[tN y] 4) none
              obtain ⟨v', w4, hap, hF4, hK4, ho4, hg4⟩ := flat_append (r := fun j => mkV f j (V.n j)) HV.out HG.out.2 (HR.out.flat.kept.size) (hF2.stay hgb) (kb_stay hK2 hgb) hlt u7 (V.n q + t) _ (by omega) (ho2.alloc _) (mkV_take f q _ _ (by omega)) hg2 ⟨wr.heap.size, 0, none⟩ 1 1 [tN y] (by omega) rfl (fun j u hu => by
                have hb := Blk.new wr [tN y] 4
                have hadd : (⟨wr.heap.size, 0, none⟩ : Addr).add j = ⟨wr.heap.size, j, none⟩ := by unfold Addr.add; split <;> simp_all
                rw [hadd]; exact hb.cell hu) (by simp [tN, Value.oneCell']) (by omega)
              rw [hy, ← mkV_next] at ho4
              have hmb := fun W => HF.out.run q (V.n q + t) q ((V.n q : Int) + (t : Int)) W rfl (by omega) (by omega) (by omega)
              rw [← hy] at hmb
              have HI := Lib.hid (And.intro hF4 (And.intro hK4 (And.intro ho4 (And.intro hg4 hmb)))); clear hF4 hK4 ho4 hg4 hmb hF2 hK2 ho2 hg2 hgb
              have HY := Lib.hid hy; clear hy
              generalize hnk : V.n q = nk at *
              have HN := Lib.hid hnk; clear hnk
              unfold tN at hap
              have i2 : (t : Int) < 64 := by omega
              go_wp2_with fail
              refine (HI.out.2.2.2.2 wr).mono ?_
              rintro e w5 ⟨rfl, rfl⟩
              go_wp2_with (at_builtin; refine wpList_append_run rfl (.tmp 59) (.tmp 71) 25 rfl rfl _ _ rfl rfl _ _ hap ?_)
              go_roundw
              case rel => exact ⟨t + 1, ht6, by go_num, HI.out.1, HI.out.2.1, HI.out.2.2.1, HI.out.2.2.2.1⟩
              case measure => simp [intOf]; omega
            · obtain rfl : t = 64 := by omega
              obtain ⟨c0, f0, hF4⟩ := HR.out.next HV.out HG.out.2 hlt HG.out.1 hF2 hK2 ho2 hg2
              obtain ⟨g, c, rfl, _⟩ := own_some ho2 (by omega)
              have HI := Lib.hid hF4; clear hF4 hF2 hK2 ho2 hg2
              go_wp2_with fail
              go_roundw
              case rel => exact ⟨q + 1, _, hlt, by go_num, HI.out⟩
              case measure => simp [intOf]; omega
        · obtain rfl : q = k := by omega
          have HR := Lib.hid hR; clear hR
          go_wp2_with fail
          go_loopw [9] (fun i wr => ∃ p : Nat, p ≤ q ∧ i = .int .i64 p ∧ Filed f V q LB GB w wr (fun j => mkV f j (V.n j)) vs q) (fun i _ => q - (intOf i).toNat)
          case atStart => exact ⟨0, by omega, rfl, HR.out⟩
          case round =>
            clear HR
            obtain ⟨p, hp, rfl, hR⟩ := hrel
            by_cases hpq : p < q
            · have i1 : (p : Int) < (q : Int) := by omega
              have HR := Lib.hid hR; clear hR
              go_wp2_with fail
              go_loopw [10] (fun i wr => ∃ j : Nat, j ≤ V.n p + 64 ∧ i = .int .i64 j ∧ Filed f V q LB GB w wr (fun j => mkV f j (V.n j)) vs q) (fun i _ => V.n p + 64 - (intOf i).toNat)
              case atStart => exact ⟨0, by omega, rfl, HR.out⟩
              case round =>
                clear HR
                obtain ⟨j, hj, rfl, hR⟩ := hrel
                have kc := hR.flat.at hpq
                have hsm := HV.out.small p hpq
                have HR := Lib.hid hR; clear hR
                obtain ⟨g, c, hvs, kg, kj, hnc⟩ := HR.out.at hpq
                have kj1 := kj j
                clear kj
                by_cases hj1 : j < V.n p + 64
                · have kj2 := kj1 hj1
                  clear kj1
                  have hmb := fun W => HF.out.run p j p j W rfl rfl (by omega) (by omega)
                  by_cases hjn : j < V.n p
                  · obtain ⟨g2, hA, kk⟩ := HR.out.flat.mark hpq hjn
                    rw [hA] at kc
                    clear hA
                    generalize f p j = y at *
                    generalize V.n p = np at *
                    generalize V.C p = cp at *
                    have i2 : (j : Int) < (np : Int) := by omega
                    have i3 : (j : Int) < (np : Int) + 64 := by omega
                    unfold tN at kk kj2
                    have HMB := Lib.hid hmb; clear hmb
                    go_wp2_with fail
                    go_quiet ((go_at_call 37; exact Calls.quiet_of_same (HMB.out _)))
                    go_wp2_with fail
                    go_roundw
                    case rel => exact ⟨j + 1, hj1, by go_num, HR.out.drew nq⟩
                    case measure => simp [intOf]; omega
                  · generalize f p j = y at *
                    generalize V.n p = np at *
                    generalize V.C p = cp at *
                    have i2 : ¬ (j : Int) < (np : Int) := by omega
                    have i3 : (j : Int) < (np : Int) + 64 := by omega
                    unfold tN at kj2
                    have HMB := Lib.hid hmb; clear hmb
                    go_wp2_with fail
                    go_quiet ((go_at_call 37; exact Calls.quiet_of_same (HMB.out _)))
                    go_wp2_with fail
                    go_roundw
                    case rel => exact ⟨j + 1, hj1, by go_num, HR.out.drew nq⟩
                    case measure => simp [intOf]; omega
                · clear kj1
                  obtain rfl : j = V.n p + 64 := by omega
                  generalize V.n p = np at *
                  generalize V.C p = cp at *
                  go_wp2_with fail
                  go_roundw
                  case rel => exact ⟨p + 1, hpq, by go_num, HR.out⟩
                  case measure => simp [intOf]; omega
            · obtain rfl : p = q := by omega
              have HR := Lib.hid (hR.again (Nat.le_refl _)); clear hR
              go_wp2_with fail
              go_loopw [11] (fun i wr => ∃ (q : Nat) (L : List Value), q ≤ p ∧ i = .int .i64 q ∧ Again f V p LB GB w wr (fun j => mkV f j (V.n j)) L q) (fun i _ => p - (intOf i).toNat)
              case atStart => exact ⟨0, _, by omega, rfl, HR.out⟩
              case round =>
                clear HR
                obtain ⟨q, L, hq, rfl, hR⟩ := hrel
                by_cases hqp : q < p
                · have i1 : (q : Int) < (p : Int) := by omega
                  obtain ⟨w3, hmk0, hg3, hs3, hb3⟩ := make_bools 64 64 wr (by omega) (by omega)
                  have hmk : (Instr.makeSlice 25 (.int .i64 64) (.int .i64 64)).run Tryz.prog wr = .ok (.slice (some ⟨wr.heap.size, 0, none⟩) 64 64) w3 := hmk0
                  clear hmk0
                  generalize hB : wr.heap.size = MB at *
                  have HR := Lib.hid (And.intro hR hB); clear hR hB
                  have H3 := Lib.hid (And.intro hg3 hb3); clear hg3 hb3 hs3
                  go_wp2_with fail
                  clear hmk
                  go_loopw [13] (fun i wr2 => ∃ j : Nat, j ≤ 64 ∧ i = .int .i64 j ∧ wr.grownBy wr2 none ∧ Blk wr2 MB 4 (amid f (q + p) j (List.replicate 64 (.bool false)))) (fun i _ => 64 - (intOf i).toNat)
                  case atStart => exact ⟨0, by omega, rfl, H3.out.1, by rw [amid_start]; exact H3.out.2⟩
                  case round =>
                    clear H3
                    obtain ⟨j, hj, rfl, hg, hb⟩ := hrel
                    by_cases hj6 : j < 64
                    · have hmb := fun W => HF.out.run (q + p) j ((q : Int) + (p : Int)) j W (by omega) rfl (by omega) (by omega)
                      have hset := hb.set j (tN (f (q + p) j))
                      rw [amid_set _ _ _ _ (by simpa using hj6)] at hset
                      obtain ⟨u, hu⟩ := blk_get hb (amid_get f (q + p) j (List.replicate 64 (.bool false)) (by simpa using hj6))
                      have hfr := hb.free j
                      have hgs := gb_set_new hg (p := ⟨MB, j, none⟩) (by rw [HR.out.2]; exact Nat.le_refl _) (tN (f (q + p) j))
                      generalize f (q + p) j = y at *
                      have HI := Lib.hid (And.intro hset (And.intro hgs hmb)); clear hset hgs hmb hg hb
                      unfold tN at HI
                      have i2 : (j : Int) < 64 := by omega
                      go_wp2_with fail
                      refine (HI.out.2.2 wr).mono ?_
                      rintro e w5 ⟨rfl, rfl⟩
                      go_wp2_with fail
                      go_roundw
                      case rel => exact ⟨j + 1, hj6, by go_num, HI.out.2.1, HI.out.1⟩
                      case measure => simp [intOf]; omega
                    · obtain rfl : j = 64 := by omega
                      rw [amid_end _ _ _ _ (by simp)] at hb
                      have hA := HR.out.1.stay hg
                      have kc := hA.flat.at hqp
                      have hsm := HV.out.small q hqp
                      obtain ⟨v', w4, hap, hF4, hK4, ho4, hg4⟩ := flat_append (r := fun j => mkV f j (V.n j)) HV.out HG.out.2 (HR.out.1.flat.kept.size) hA.flat (kb_stay (kb_refl _ _) hg) hqp (V.v q) (V.n q) _ (Nat.le_refl _) (hA.flat.own q hqp) (by rw [List.take_of_length_le (by rw [mkV_length]; exact Nat.le_refl _)]) (Or.inl rfl) ⟨MB, 0, none⟩ 64 64 (mkV f (q + p) 64) (by omega) (mkV_length _ _ _) (fun j u hu => by
                        have hadd : (⟨MB, 0, none⟩ : Addr).add j = ⟨MB, j, none⟩ := by unfold Addr.add; split <;> simp_all
                        rw [hadd]; exact hb.cell hu) (mkV_one _ _ _) (by omega)
                      obtain ⟨c0, f0, hA4⟩ := HR.out.1.next HV.out HG.out.2 hqp HG.out.1 hF4 hK4 ho4 hg4
                      obtain ⟨u, hu⟩ := c0
                      obtain ⟨g, c, rfl, _⟩ := own_some ho4 (by omega)
                      have HI := Lib.hid hA4; clear hA4 hF4 hK4 ho4 hg4 hA hb hg
                      unfold Lists.v at hap
                      go_wp2_with (at_builtin; refine wpList_append_run rfl (.tmp 158) (.tmp 159) 25 rfl rfl _ _ rfl rfl _ _ hap ?_)
                      go_roundw
                      case rel => exact ⟨q + 1, _, hqp, by go_num, HI.out⟩
                      case measure => simp [intOf]; omega
                · obtain rfl : q = p := by omega
                  have HR := Lib.hid hR; clear hR
                  go_wp2_with fail
                  go_loopw [14] (fun i wr => ∃ p : Nat, p ≤ q ∧ i = .int .i64 p ∧ Again f V q LB GB w wr (fun j => mkV f j (V.n j)) L q) (fun i _ => q - (intOf i).toNat)
                  case atStart => exact ⟨0, by omega, rfl, HR.out⟩
                  case round =>
                    clear HR
                    obtain ⟨p, hp, rfl, hR⟩ := hrel
                    by_cases hpq : p < q
                    · have i1 : (p : Int) < (q : Int) := by omega
                      have HR := Lib.hid hR; clear hR
                      go_wp2_with fail
                      go_loopw [15] (fun i wr => ∃ j : Nat, j ≤ V.n p ∧ i = .int .i64 j ∧ Again f V q LB GB w wr (fun j => mkV f j (V.n j)) L q) (fun i _ => V.n p - (intOf i).toNat)
                      case atStart => exact ⟨0, by omega, rfl, HR.out⟩
                      case round =>
                        clear HR
                        obtain ⟨j, hj, rfl, hR⟩ := hrel
                        have kc := hR.flat.at hpq
                        have hsm := HV.out.small p hpq
                        have HR := Lib.hid hR; clear hR
                        obtain ⟨g, c, kg, kj, hnc⟩ := HR.out.at hpq
                        have kj1 := kj j
                        clear kj
                        by_cases hjn : j < V.n p
                        · have kj2 := kj1 hjn
                          clear kj1
                          have hmb := fun W => HF.out.run p j p j W rfl rfl (by omega) (by omega)
                          obtain ⟨g2, hA, kk⟩ := HR.out.flat.mark hpq hjn
                          rw [hA] at kc
                          clear hA
                          generalize f p j = y at *
                          generalize V.n p = np at *
                          generalize V.C p = cp at *
                          have i2 : (j : Int) < (np : Int) := by omega
                          have i3 : (j : Int) < (np : Int) + 64 := by omega
                          unfold tN at kk kj2
                          have HMB := Lib.hid hmb; clear hmb
                          go_wp2_with fail
                          go_quiet ((go_at_call 37; exact Calls.quiet_of_same (HMB.out _)))
                          go_wp2_with fail
                          go_roundw
                          case rel => exact ⟨j + 1, hjn, by go_num, HR.out.drew nq⟩
                          case measure => simp [intOf]; omega
                        · clear kj1
                          obtain rfl : j = V.n p := by omega
                          generalize V.n p = np at *
                          generalize V.C p = cp at *
                          go_wp2_with fail
                          go_roundw
                          case rel => exact ⟨p + 1, hpq, by go_num, HR.out⟩
                          case measure => simp [intOf]; omega
                    · obtain rfl : p = q := by omega
                      have HR := Lib.hid hR.flat; clear hR
                      go_wp2
                      go_ret
                      exact ⟨rfl, HR.out⟩
end Ft
end Go.Proofs.YtmnlidfalhjghaaGreatDoor
