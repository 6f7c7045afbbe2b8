/- A region that draws its order, as in XFlow; what a store has done may be told of the address that stands in a slot (the slot st j of operation j). No program is named here. -/
import Derived.Test.YtabdegeaifajfaaGreatDoorFlow
namespace Go.Proofs.YtabdegeaifajfaaGreatDoor
open Go
section
variable {P : Program} {ops : Array Oper} {Q : Exit → Act → World → Prop} {G : Nat → Value → World → Prop} {st : Nat → Nat} {M : Nat → Value → World → Prop} {B : World → Prop} {Rel : World → World → Prop} {a0 : Act}

structure Flow2 (G : Nat → Value → World → Prop) (st : Nat → Nat) (M : Nat → Value → World → Prop) (B : World → Prop) (a0 : Act) (ops : Array Oper) (listed : Array Bool) (a : Act) (w : World) : Prop where
  base : B w
  size : a.tmps.size = a0.tmps.size
  defers : a.defers = a0.defers
  rest : ∀ d, notDst ops d = true → a.tmps.getD d undef = a0.tmps.getD d undef
  slots : ∀ j oj d, ops[j]? = some oj → listed.getD j false = true → oj.dst = some d → G d (a.tmps.getD d undef) w
  mems : ∀ j oj, ops[j]? = some oj → listed.getD j false = true → oj.dst = none → M j (a.tmps.getD (st j) undef) w
  closed : ∀ j oj, ops[j]? = some oj → listed.getD j false = true → ∀ e ∈ oj.after, Region.binds .any e = true → listed.getD e.on false = true
structure FlowAt2 (G : Nat → Value → World → Prop) (st : Nat → Nat) (M : Nat → Value → World → Prop) (B : World → Prop) (a0 : Act) (ops : Array Oper) (o : Oper) (a : Act) (w : World) : Prop where
  base : B w
  rest : ∀ d, notDst ops d = true → a.tmps.getD d undef = a0.tmps.getD d undef
  dep : ∀ d, waits ops o d = true → G d (a.tmps.getD d undef) w
  mem : ∀ j oj, ops[j]? = some oj → waitsFor o j = true → oj.dst = none → M j (a.tmps.getD (st j) undef) w
def FlowPost2 (G : Nat → Value → World → Prop) (st : Nat → Nat) (M : Nat → Value → World → Prop) (B : World → Prop) (Rel : World → World → Prop) (i : Nat) (o : Oper) (a : Act) (w : World) (v : Value) (w' : World) : Prop :=
  B w' ∧ Rel w w' ∧ match o.dst with | some d => G d v w' | none => M i (a.tmps.getD (st i) undef) w'
def FlowStep2 (P : Program) (Q : Exit → Act → World → Prop) (G : Nat → Value → World → Prop) (st : Nat → Nat) (M : Nat → Value → World → Prop) (B : World → Prop) (Rel : World → World → Prop) (a0 : Act) (ops : Array Oper) (i : Nat) (o : Oper) : Prop :=
  ∀ a w, FlowAt2 G st M B a0 ops o a w → ops[i]? = some o → wpOp P ops Q i (fun a' w' => ∃ v, a' = a.put o.dst v ∧ FlowPost2 G st M B Rel i o a w v w') a w
def FlowSteps2 (P : Program) (Q : Exit → Act → World → Prop) (G : Nat → Value → World → Prop) (st : Nat → Nat) (M : Nat → Value → World → Prop) (B : World → Prop) (Rel : World → World → Prop) (a0 : Act) (ops : Array Oper) : Nat → List Oper → Prop
  | _, [] => True
  | i, o :: r => FlowStep2 P Q G st M B Rel a0 ops i o ∧ FlowSteps2 P Q G st M B Rel a0 ops (i + 1) r
theorem flowSteps2_get : ∀ (l : List Oper) (i k : Nat) (o : Oper), FlowSteps2 P Q G st M B Rel a0 ops i l → l[k]? = some o → FlowStep2 P Q G st M B Rel a0 ops (i + k) o := by
  intro l
  induction l with
  | nil => intro i k o h hk; simp at hk
  | cons x r ih =>
    intro i k o h hk
    cases k with
    | zero => simp at hk; subst hk; exact h.1
    | succ k => have := ih (i + 1) k o h.2 (by simpa using hk); rwa [show i + (k + 1) = i + 1 + k by omega]
/-- each store's slot is one that it waits for, or that nobody writes -/
def stOk (ops : Array Oper) (st : Nat → Nat) : Bool := (List.range ops.size).all fun j => ((ops[j]?).map fun o => o.dst.isSome || waits ops o (st j) || notDst ops (st j)).getD true
theorem flow2_any (ht : topo ops = true) (ho : once ops a0.tmps.size = true) (stab : ∀ d u w w', Rel w w' → G d u w → G d u w') (stabM : ∀ j u w w', Rel w w' → M j u w → M j u w') (hstk : stOk ops st = true)
    (steps : FlowSteps2 P Q G st M B Rel a0 ops 0 ops.toList)
    (fin : ∀ a w, B w → a.tmps.size = a0.tmps.size → a.defers = a0.defers → (∀ d, notDst ops d = true → a.tmps.getD d undef = a0.tmps.getD d undef) → (∀ d, isDst ops d = true → G d (a.tmps.getD d undef) w) →
      (∀ j oj, ops[j]? = some oj → oj.dst = none → M j (a.tmps.getD (st j) undef) w) → Q .normal a w) :
    ∀ (fuel : Nat) (listed : Array Bool) (a : Act) (w : World), listed.size = ops.size → unlisted ops listed ≤ fuel → Flow2 G st M B a0 ops listed a w → wpAny P .any ops Q fuel listed a w := by
  have inn : ∀ {j : Nat} {oj : Oper}, ops[j]? = some oj → j < ops.size := by
    intro j oj hj
    rcases Nat.lt_or_ge j ops.size with h' | h'
    · exact h'
    · rw [Array.getElem?_eq_none h'] at hj; cases hj
  have go : ∀ (listed : Array Bool) (a : Act) (w : World), listed.size = ops.size → Flow2 G st M B a0 ops listed a w → Region.ready .any ops listed = [] → Q .normal a w := by
    intro listed a w hs hF hr
    have hall := all_listed ht hs hr
    refine fin a w hF.base hF.size hF.defers hF.rest (fun d hd => ?_) (fun j oj hj hn => hF.mems j oj hj (hall j (inn hj)) hn)
    obtain ⟨k, hk, hb⟩ := Array.any_eq_true.1 hd
    exact hF.slots k ops[k] d (Array.getElem?_eq_getElem hk) (hall k hk) (by simpa using hb)
  intro fuel
  induction fuel with
  | zero =>
    intro listed a w hs hu hF
    have hr : Region.ready .any ops listed = [] := by
      cases hc : Region.ready .any ops listed with
      | nil => rfl
      | cons x r =>
        have := unlisted_lt (ops := ops) (listed := listed) (i := x) (by rw [hc]; exact List.mem_cons_self ..)
        omega
    exact ⟨hr, go listed a w hs hF hr⟩
  | succ fuel ih =>
    intro listed a w hs hu hF
    refine ⟨go listed a w hs hF, fun i hi => ?_⟩
    obtain ⟨h0, o, hoi, hall⟩ := mem_ready.1 hi
    have hst := flowSteps2_get ops.toList 0 i o steps (by rw [Array.getElem?_toList]; exact hoi)
    rw [Nat.zero_add] at hst
    have hat : FlowAt2 G st M B a0 ops o a w := ⟨hF.base, hF.rest, fun d hd => by
        obtain ⟨k, hk, hb⟩ := Array.any_eq_true.1 hd
        simp only [Bool.and_eq_true, beq_iff_eq] at hb
        have hl := hall _ (Array.getElem_mem hk) hb.1
        cases hx : ops[o.after[k].on]? with
        | none => rw [hx] at hb; cases hb.2
        | some oj => rw [hx] at hb; exact hF.slots _ oj d hx hl hb.2,
      fun j oj hj ha hn => by
        obtain ⟨k, hk, hb⟩ := Array.any_eq_true.1 ha
        simp only [Bool.and_eq_true, beq_iff_eq] at hb
        have hl := hall _ (Array.getElem_mem hk) hb.1
        rw [hb.2] at hl
        exact hF.mems j oj hj hl hn⟩
    refine wpOp_mono (fun a' w' h => ?_) (hst a w hat hoi)
    obtain ⟨v, rfl, hB, hR, hG⟩ := h
    have hlt := unlisted_lt hi
    refine ih _ _ _ (by simpa using hs) (by omega) ⟨hB, ?_, ?_, ?_, ?_, ?_, ?_⟩
    · rw [← hF.size]; cases o.dst <;> simp [Act.put]
    · rw [← hF.defers]; cases o.dst <;> simp [Act.put]
    · intro d hd
      rw [← hF.rest d hd]
      have hne : o.dst ≠ some d := by
        have := (Array.all_eq_true_iff_forall_mem.1 hd) o (Array.mem_of_getElem? hoi)
        simpa using this
      cases hod : o.dst with
      | none => rfl
      | some d' => rw [hod] at hne; simp [Act.put, Array.getElem?_setIfInBounds_ne (show d' ≠ d from fun e => hne (by rw [e]))]
    · intro j oj d hj hl hd
      by_cases e : i = j
      · subst e
        rw [hoi] at hj
        cases hj
        have hd2 := once_lt ho hoi hd
        rw [← hF.size] at hd2
        rw [hd] at hG ⊢
        simpa [Act.put, hd2] using hG
      · rw [getD_set_ne false e] at hl
        have h1 := hF.slots j oj d hj hl hd
        have hv : (a.put o.dst v).tmps.getD d undef = a.tmps.getD d undef := by
          cases hod : o.dst with
          | none => rfl
          | some d' =>
            have := once_ne ho hoi hj e hod
            rw [hd] at this
            simp [Act.put, Array.getElem?_setIfInBounds_ne (show d' ≠ d from fun e => this (by rw [e]))]
        rw [hv]
        exact stab d _ w w' hR h1
    · intro j oj hj hl hn
      have hv : ∀ jj ojj, ops[jj]? = some ojj → ojj.dst = none → (jj = i ∨ listed.getD jj false = true) → (a.put o.dst v).tmps.getD (st jj) undef = a.tmps.getD (st jj) undef := by
        intro jj ojj hjj hnn hcase
        cases hod : o.dst with
        | none => rfl
        | some d' =>
          have hne : d' ≠ st jj := by
            intro he
            have hs1 := (List.all_eq_true.1 hstk) jj (List.mem_range.2 (inn hjj))
            rw [hjj] at hs1
            simp only [Option.map_some, Option.getD_some, hnn, Option.isSome_none, Bool.false_or, Bool.or_eq_true] at hs1
            rcases hs1 with hs1 | hs1
            · obtain ⟨k, hk, hb⟩ := Array.any_eq_true.1 hs1
              simp only [Bool.and_eq_true, beq_iff_eq] at hb
              rcases hcase with hc | hc
              · subst hc
                rw [hoi] at hjj
                cases hjj
                rw [hod] at hnn
                cases hnn
              · have hl2 := hF.closed jj ojj hjj hc _ (Array.getElem_mem hk) hb.1
                cases hx : ops[ojj.after[k].on]? with
                | none => rw [hx] at hb; cases hb.2
                | some ok =>
                  rw [hx] at hb
                  have hdk : ok.dst = some (st jj) := hb.2
                  by_cases hki : ojj.after[k].on = i
                  · rw [hki] at hl2
                    have hlt2 : i < listed.size := by rw [hs]; exact inn hoi
                    simp [hlt2] at h0 hl2
                    rw [h0] at hl2
                    cases hl2
                  · exact once_ne ho hx hoi hki hdk (by rw [hod, he])
            · have := (Array.all_eq_true_iff_forall_mem.1 hs1) o (Array.mem_of_getElem? hoi)
              rw [hod, he] at this
              simp at this
          simp [Act.put, Array.getElem?_setIfInBounds_ne hne]
      by_cases e : i = j
      · subst e
        rw [hv i oj hj hn (Or.inl rfl)]
        rw [hoi] at hj
        cases hj
        rw [hn] at hG
        exact hG
      · rw [getD_set_ne false e] at hl
        rw [hv j oj hj hn (Or.inr hl)]
        exact stabM j _ w w' hR (hF.mems j oj hj hl hn)
    · intro j oj hj hl e he hb
      by_cases ei : i = j
      · subst ei
        rw [hoi] at hj
        cases hj
        exact getD_set_true (hall e he hb)
      · rw [getD_set_ne false ei] at hl
        exact getD_set_true (hF.closed j oj hj hl e he hb)
/-- A REGION THAT DRAWS ITS ORDER, by one obligation for each operation. G d v w: what slot d has; M j w: what operation j, that has no slot, has done; B: what holds of memory throughout; Rel: what one operation may do to memory. -/
theorem wp_region_flow2 {id : Nat} {w : World} (G : Nat → Value → World → Prop) (st : Nat → Nat) (M : Nat → Value → World → Prop) (B : World → Prop) (Rel : World → World → Prop) (hm : P.follows .mixedOrders = true) (ht : topo ops = true) (ho : once ops a0.tmps.size = true) (hB : B w.drew)
    (stab : ∀ d u w w', Rel w w' → G d u w → G d u w') (stabM : ∀ j u w w', Rel w w' → M j u w → M j u w') (hstk : stOk ops st = true) (steps : FlowSteps2 P Q G st M B Rel a0 ops 0 ops.toList)
    (fin : ∀ a w, B w → a.tmps.size = a0.tmps.size → a.defers = a0.defers → (∀ d, notDst ops d = true → a.tmps.getD d undef = a0.tmps.getD d undef) → (∀ d, isDst ops d = true → G d (a.tmps.getD d undef) w) →
      (∀ j oj, ops[j]? = some oj → oj.dst = none → M j (a.tmps.getD (st j) undef) w) → Q .normal a w) : (Code.region id ops true).wp P Q a0 w :=
  wp_region_any hm (flow2_any ht ho stab stabM hstk steps fin ops.size _ a0 _ (by simp) (by unfold unlisted; exact Nat.le_trans (List.length_filter_le _ _) (by simp))
    ⟨hB, rfl, rfl, fun _ _ => rfl, fun j oj d _ hl _ => by
      by_cases h : j < ops.size <;> simp [h] at hl, fun j oj _ hl _ => by
      by_cases h : j < ops.size <;> simp [h] at hl, fun j oj _ hl => by
      by_cases h : j < ops.size <;> simp [h] at hl⟩)

/-- an operation that yields a value -/
theorem flow2_value {i : Nat} {o : Oper} {d : Nat} (hd : o.dst = some d) (hg : o.guard = none) (h : ∀ a w, FlowAt2 G st M B a0 ops o a w → ∃ v w', (execOp a.eval o).run P w = .ok (.value v) w' ∧ B w' ∧ Rel w w' ∧ G d v w') : FlowStep2 P Q G st M B Rel a0 ops i o := by
  intro a w hF hi
  obtain ⟨v, w', hr, hB, hR, hG⟩ := h a w hF
  unfold wpOp
  simp only [hi, wanted_none hg, if_true]
  refine Or.inl ?_
  unfold Oper.wp
  rw [hr]
  exact ⟨v, rfl, hB, hR, by rw [hd]; exact hG⟩
/-- an operation that leaves no value -/
theorem flow2_skip {i : Nat} {o : Oper} (hd : o.dst = none) (hg : o.guard = none) (h : ∀ a w, FlowAt2 G st M B a0 ops o a w → ∃ w', (execOp a.eval o).run P w = .ok .skip w' ∧ B w' ∧ Rel w w' ∧ M i (a.tmps.getD (st i) undef) w') : FlowStep2 P Q G st M B Rel a0 ops i o := by
  intro a w hF hi
  obtain ⟨w', hr, hB, hR, hG⟩ := h a w hF
  unfold wpOp
  simp only [hi, wanted_none hg, if_true]
  refine Or.inl ?_
  unfold Oper.wp
  rw [hr]
  exact ⟨undef, rfl, hB, hR, by rw [hd]; exact hG⟩
/-- a call -/
theorem flow2_call {i : Nat} {o : Oper} {d : Nat} (hd : o.dst = some d) (hg : o.guard = none)
    (h : ∀ a w, FlowAt2 G st M B a0 ops o a w → ∃ f args, (execOp a.eval o).run P w = .ok (.enter f args) w ∧ Calls P f args w fun e w' => ∃ v, e = .returned v ∧ B w' ∧ Rel w w' ∧ G d v w') : FlowStep2 P Q G st M B Rel a0 ops i o := by
  intro a w hF hi
  obtain ⟨f, args, hr, hc⟩ := h a w hF
  unfold wpOp
  simp only [hi, wanted_none hg, if_true]
  refine Or.inl ?_
  unfold Oper.wp
  rw [hr]
  refine Calls.mono hc fun e w' he => ?_
  obtain ⟨v, rfl, hB, hR, hG⟩ := he
  exact ⟨v, rfl, hB, hR, by rw [hd]; exact hG⟩
end
end Go.Proofs.YtabdegeaifajfaaGreatDoor
