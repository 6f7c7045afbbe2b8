/- texts merged, part 5: XFlowSl -/
import Derived.Test.YtcmnecnbcohaeaaGreatDoorGtB1
/- Regions that draw their order, of which some slots hold slices (or pointers) of blocks that lie apart: XFlowS once more, with what is apart told of slices, too. -/
namespace Go.Proofs.YtcmnecnbcohaeaaGreatDoor
open Go Go.RowKit Ow
namespace Fs
open Fg
def blkOf : Value → Option Nat
  | .pointer (some a) => some a.block
  | .slice (some a) _ _ => some a.block
  | _ => none
/-- what the slots ps hold goes to blocks that are there, all apart -/
def SlApart (ps : List Nat) (a : Act) (w : World) : Prop :=
  ∀ s ∈ ps, ∀ C, blkOf (a.tmps.getD s undef) = some C → C < w.heap.size ∧ ∀ t ∈ ps, t ≠ s → blkOf (a.tmps.getD t undef) ≠ some C
theorem sl_grown {ps : List Nat} {a : Act} {w w' : World} (h : SlApart ps a w) (hs : w.heap.size ≤ w'.heap.size) : SlApart ps a w' :=
  fun s hm C e => ⟨Nat.lt_of_lt_of_le (h s hm C e).1 hs, (h s hm C e).2⟩
theorem sl_put {ps : List Nat} {a : Act} {w w' : World} {dst : Option Tmp} {v : Value} (h : SlApart ps a w) (hs : w.heap.size ≤ w'.heap.size) (hd : ∀ s ∈ ps, dst ≠ some s) : SlApart ps (a.put dst v) w' := by
  intro s hm C e
  rw [put_getD (hd s hm)] at e
  refine ⟨Nat.lt_of_lt_of_le (h s hm C e).1 hs, fun t ht hts => ?_⟩
  rw [put_getD (hd t ht)]
  exact (h s hm C e).2 t ht hts
theorem sl_new {ps : List Nat} {a : Act} {w w' : World} {d : Nat} {v : Value} (h : SlApart ps a w) (hs : w.heap.size ≤ w'.heap.size) (hd : d < a.tmps.size) (hv : ∀ C, blkOf v = some C → w.heap.size ≤ C ∧ C < w'.heap.size) : SlApart ps (a.put (some d) v) w' := by
  have hsame : ∀ v, (a.put (some d) v).tmps.getD d undef = v := fun v => by simp [Act.put, hd]
  intro s hm C e
  by_cases e1 : d = s
  · subst e1
    rw [hsame] at e
    refine ⟨(hv C e).2, fun t ht hts e2 => ?_⟩
    rw [put_getD (by intro e3; exact hts (Option.some.inj e3).symm)] at e2
    have := (h t ht _ e2).1
    have := (hv C e).1
    omega
  · rw [put_getD (by intro e3; exact e1 (Option.some.inj e3))] at e
    refine ⟨by have := (h s hm C e).1; omega, fun t ht hts => ?_⟩
    by_cases e2 : d = t
    · subst e2
      rw [hsame]
      intro e3
      have := (h s hm _ e).1
      have := (hv C e3).1
      omega
    · rw [put_getD (by intro e3; exact e2 (Option.some.inj e3))]
      exact (h s hm C e).2 t ht hts
theorem sl_new0 {ps : List Nat} {a : Act} {w w' : World} {d : Nat} (h : SlApart ps a w) (hs : w.heap.size < w'.heap.size) (hd : d < a.tmps.size) : SlApart ps (a.put (some d) (.pointer (some ⟨w.heap.size, 0, none⟩))) w' :=
  sl_new h (Nat.le_of_lt hs) hd fun C e => by cases e; exact ⟨Nat.le_refl _, hs⟩
theorem sl_undef {ps : List Nat} {a : Act} {w : World} (h : (ps.all fun s => (blkOf (a.tmps.getD s undef)).isNone) = true) : SlApart ps a w := fun s hm C e => by
  have := (List.all_eq_true.1 h) s hm
  rw [e] at this
  cases this
section
variable {P : Program} {ops : Array Oper} {Q : Exit → Act → World → Prop} {L : List It} {B : World → Prop} {a0 : Act} {ps : List Nat}
structure AtP (k : Nat) (ps : List Nat) (L : List It) (B : World → Prop) (a0 : Act) (ops : Array Oper) (o : Oper) (a : Act) (w : World) : Prop where
  base : B w
  size : a.tmps.size = a0.tmps.size
  ptrs : SlApart ps a w
  rest : ∀ d, isDstTo ops k d = false → a.tmps.getD d undef = a0.tmps.getD d undef
  dep : ∀ d, waits ops o d = true → its L d (a.tmps.getD d undef) w
def PostP (ps : List Nat) (L : List It) (B : World → Prop) (o : Oper) (a : Act) (w : World) (v : Value) (w' : World) : Prop :=
  B w' ∧ (∀ d u, its L d u w → its L d u w') ∧ SlApart ps (a.put o.dst v) w' ∧ ∀ d, o.dst = some d → its L d v w'
def StepP (k : Nat) (ps : List Nat) (P : Program) (Q : Exit → Act → World → Prop) (L : List It) (B : World → Prop) (a0 : Act) (ops : Array Oper) (i : Nat) (o : Oper) : Prop :=
  ∀ a w, AtP k ps L B a0 ops o a w → ops[i]? = some o → wpOp P ops Q i (fun a' w' => ∃ v, a' = a.put o.dst v ∧ PostP ps L B o a w v w') a w
theorem stepValue {k i : Nat} {o : Oper} {d : Nat} (hd : o.dst = some d) (h : ∀ a w, AtP k ps L B a0 ops o a w → Wants ops o a ∧ ∃ v w', (execOp a.eval o).run P w = .ok (.value v) w' ∧ B w' ∧ (∀ d u, its L d u w → its L d u w') ∧ SlApart ps (a.put (some d) v) w' ∧ its L d v w') : StepP k ps P Q L B a0 ops i o := by
  intro a w hF hi
  obtain ⟨hw, v, w', hr, hB, hRG, hP, hG⟩ := h a w hF
  unfold Wants at hw
  unfold wpOp
  simp only [hi, hw, if_true]
  refine Or.inl ?_
  unfold Oper.wp
  rw [hr]
  exact ⟨v, rfl, hB, hRG, by rw [hd]; exact hP, fun d' e => by rw [hd] at e; cases e; exact hG⟩
theorem stepCall {k i : Nat} {o : Oper} {d : Nat} (hd : o.dst = some d)
    (h : ∀ a w, AtP k ps L B a0 ops o a w → Wants ops o a ∧ ∃ f args, (execOp a.eval o).run P w = .ok (.enter f args) w ∧ Calls P f args w fun e w' => ∃ v, e = .returned v ∧ B w' ∧ (∀ d u, its L d u w → its L d u w') ∧ SlApart ps (a.put (some d) v) w' ∧ its L d v w') : StepP k ps P Q L B a0 ops i o := by
  intro a w hF hi
  obtain ⟨hw, f, args, hr, hc⟩ := h a w hF
  unfold Wants at hw
  unfold wpOp
  simp only [hi, hw, if_true]
  refine Or.inl ?_
  unfold Oper.wp
  rw [hr]
  refine Calls.mono hc fun e w' he => ?_
  obtain ⟨v, rfl, hB, hRG, hP, hG⟩ := he
  exact ⟨v, rfl, hB, hRG, by rw [hd]; exact hP, fun d' e => by rw [hd] at e; cases e; exact hG⟩
theorem valueP {k i : Nat} {o : Oper} {d : Nat} (hBs : ∀ w w', B w → w.grownBy w' none → B w') (hd : o.dst = some d) (hps : (ps.all fun s => s != d) = true)
    (h : ∀ a w, AtP k ps L B a0 ops o a w → Wants ops o a ∧ ∃ v w', (execOp a.eval o).run P w = .ok (.value v) w' ∧ w.grownBy w' none ∧ its L d v w') : StepP k ps P Q L B a0 ops i o :=
  stepValue hd fun a w hF => by
    obtain ⟨hw, v, w', hr, hg, hG⟩ := h a w hF
    exact ⟨hw, v, w', hr, hBs _ _ hF.base hg, fun d u => its_grown hg d u, sl_put hF.ptrs hg.size (not_in hps), hG⟩
theorem allocP {k i : Nat} {o : Oper} {d : Nat} (hBs : ∀ w w', B w → w.grownBy w' none → B w') (hd : o.dst = some d) (hlt : d < a0.tmps.size)
    (h : ∀ a w, AtP k ps L B a0 ops o a w → Wants ops o a ∧ ∃ w', (execOp a.eval o).run P w = .ok (.value (.pointer (some ⟨w.heap.size, 0, none⟩))) w' ∧ w.grownBy w' none ∧ w.heap.size < w'.heap.size ∧ its L d (.pointer (some ⟨w.heap.size, 0, none⟩)) w') : StepP k ps P Q L B a0 ops i o :=
  stepValue hd fun a w hF => by
    obtain ⟨hw, w', hr, hg, hs, hG⟩ := h a w hF
    exact ⟨hw, _, w', hr, hBs _ _ hF.base hg, fun d u => its_grown hg d u, sl_new0 hF.ptrs hs (by rw [hF.size]; exact hlt), hG⟩
theorem callP {k i : Nat} {o : Oper} {d : Nat} (hBs : ∀ w w', B w → w.grownBy w' none → B w') (hd : o.dst = some d) (hps : (ps.all fun s => s != d) = true)
    (h : ∀ a w, AtP k ps L B a0 ops o a w → Wants ops o a ∧ ∃ f args, (execOp a.eval o).run P w = .ok (.enter f args) w ∧ Calls P f args w fun e w' => ∃ v, e = .returned v ∧ w.grownBy w' none ∧ its L d v w') : StepP k ps P Q L B a0 ops i o :=
  stepCall hd fun a w hF => by
    obtain ⟨hw, f, args, hr, hc⟩ := h a w hF
    refine ⟨hw, f, args, hr, hc.mono fun e w' he => ?_⟩
    obtain ⟨v, rfl, hg, hG⟩ := he
    exact ⟨v, rfl, hBs _ _ hF.base hg, fun d u => its_grown hg d u, sl_put hF.ptrs hg.size (not_in hps), hG⟩
/-- a call whose answer lies in a block of its own -/
theorem callF {k i : Nat} {o : Oper} {d : Nat} (hBs : ∀ w w', B w → w.grownBy w' none → B w') (hd : o.dst = some d) (hlt : d < a0.tmps.size)
    (h : ∀ a w, AtP k ps L B a0 ops o a w → Wants ops o a ∧ ∃ f args, (execOp a.eval o).run P w = .ok (.enter f args) w ∧ Calls P f args w fun e w' => ∃ v, e = .returned v ∧ w.grownBy w' none ∧ its L d v w' ∧ ∀ C, blkOf v = some C → w.heap.size ≤ C ∧ C < w'.heap.size) : StepP k ps P Q L B a0 ops i o :=
  stepCall hd fun a w hF => by
    obtain ⟨hw, f, args, hr, hc⟩ := h a w hF
    refine ⟨hw, f, args, hr, hc.mono fun e w' ⟨v, he, hg, hG, hn⟩ => ?_⟩
    subst he
    exact ⟨v, rfl, hBs _ _ hF.base hg, fun d u => its_grown hg d u, sl_new hF.ptrs hg.size (by rw [hF.size]; exact hlt) hn, hG⟩
theorem skippedP {k i : Nat} {o : Oper} {d : Nat} (hd : o.dst = some d) (hps : (ps.all fun s => s != d) = true) (hG : ∀ w, its L d undef w)
    (h : ∀ a w, AtP k ps L B a0 ops o a w → Region.wanted o (yielded ops a.tmps) = false) : StepP k ps P Q L B a0 ops i o := by
  intro a w hF hi
  have hw := h a w hF
  unfold wpOp
  simp only [hi, hw]
  exact ⟨undef, rfl, hF.base, fun _ _ h => h, sl_put hF.ptrs (Nat.le_refl _) (fun s hs e => not_in hps s hs (hd ▸ e)), fun d' e => by rw [hd] at e; cases e; exact hG w⟩
structure FlowS (ps : List Nat) (L : List It) (B : World → Prop) (a0 : Act) (ops : Array Oper) (k : Nat) (listed : Array Bool) (a : Act) (w : World) : Prop where
  base : B w
  size : a.tmps.size = a0.tmps.size
  defers : a.defers = a0.defers
  rest : ∀ d, isDstTo ops k d = false → a.tmps.getD d undef = a0.tmps.getD d undef
  slots : ∀ j oj d, ops[j]? = some oj → listed.getD j false = true → oj.dst = some d → its L d (a.tmps.getD d undef) w
  closed : ∀ j oj, ops[j]? = some oj → listed.getD j false = true → ∀ e ∈ oj.after, Region.binds .any e = true → listed.getD e.on false = true
  notk : ∀ j, k ≤ j → listed.getD j false = false
  ptrs : SlApart ps a w
def StepsS (k : Nat) (ps : List Nat) (P : Program) (Q : Exit → Act → World → Prop) (L : List It) (B : World → Prop) (a0 : Act) (ops : Array Oper) : Nat → List Oper → Prop
  | _, [] => True
  | i, o :: r => ((∃ d, o.dst = some d) ∧ StepP k ps P Q L B a0 ops i o) ∧ StepsS k ps P Q L B a0 ops (i + 1) r
theorem stepsS_get {k : Nat} : ∀ (l : List Oper) (i j : Nat) (o : Oper), StepsS k ps P Q L B a0 ops i l → l[j]? = some o → (∃ d, o.dst = some d) ∧ StepP k ps P Q L B a0 ops (i + j) o := by
  intro l
  induction l with
  | nil => intro i j o h hk; simp at hk
  | cons x r ih =>
    intro i j o h hk
    cases j with
    | zero => simp at hk; subst hk; exact h.1
    | succ j => have := ih (i + 1) j o h.2 (by simpa using hk); rwa [show i + (j + 1) = i + 1 + j by omega]
theorem flowS_any {k : Nat} (ht : topo ops = true) (ho : once (ops.extract 0 k) a0.tmps.size = true) (htl : tailOk ops k = true) (hk : k ≤ ops.size)
    (steps : StepsS k ps P Q L B a0 ops 0 (ops.toList.take k))
    (fin : ∀ a w, B w → a.tmps.size = a0.tmps.size → a.defers = a0.defers → (∀ d, isDstTo ops k d = false → a.tmps.getD d undef = a0.tmps.getD d undef) →
      (∀ d, isDstTo ops k d = true → its L d (a.tmps.getD d undef) w) → SlApart ps a w → wpList P ops Q (ops.toList.drop k) a w) :
    ∀ (fuel : Nat) (listed : Array Bool) (a : Act) (w : World), listed.size = ops.size → unlisted ops listed ≤ fuel → FlowS ps L B a0 ops k listed a w → wpAny P .any ops Q fuel listed a w := by
  have toTail : ∀ (fuel : Nat) (listed : Array Bool) (a : Act) (w : World), listed.size = ops.size → ops.size - k ≤ fuel → FlowS ps L B a0 ops k listed a w → (∀ j, j < k → listed.getD j false = true) → wpAny P .any ops Q fuel listed a w := by
    intro fuel listed a w hs hf hF hall
    refine tail_any ht htl (ops.size - k) k fuel listed a w (Nat.le_refl _) (by omega) hf hs hall hF.notk (fin a w hF.base hF.size hF.defers hF.rest (fun d hd => ?_) hF.ptrs)
    obtain ⟨j, hj, hb⟩ := List.any_eq_true.1 hd
    have hjk := List.mem_range.1 hj
    have hg : ops[j]? = some ops[j] := Array.getElem?_eq_getElem (by omega)
    rw [hg] at hb
    exact hF.slots j _ d hg (hall j hjk) (by simpa using hb)
  have hcount : ∀ (listed : Array Bool), (∀ j, k ≤ j → listed.getD j false = false) → listed.size = ops.size → ops.size - k ≤ unlisted ops listed := by
    intro listed hn hs
    unfold unlisted
    have hsub : (List.range' k (ops.size - k)).length ≤ ((List.range ops.size).filter fun i => !listed.getD i true).length := by
      have hp : List.Sublist (List.range' k (ops.size - k)) ((List.range ops.size).filter fun i => !listed.getD i true) := by
        have h1 : List.Sublist (List.range' k (ops.size - k)) (List.range ops.size) := by
          have e : List.range ops.size = List.range' 0 k ++ List.range' k (ops.size - k) := by
            rw [List.range_eq_range', show ops.size = k + (ops.size - k) by omega, ← List.range'_append_1]
            simp
          rw [e]
          exact List.sublist_append_right _ _
        have h2 := h1.filter fun i => !listed.getD i true
        have h3 : (List.range' k (ops.size - k)).filter (fun i => !listed.getD i true) = List.range' k (ops.size - k) := by
          rw [List.filter_eq_self]
          intro x hx
          have hx' := List.mem_range'_1.1 hx
          have := hn x hx'.1
          have hlt : x < listed.size := by omega
          simp [hlt] at this ⊢
          exact this
        rwa [h3] at h2
      exact hp.length_le
    simpa using hsub
  intro fuel
  induction fuel with
  | zero =>
    intro listed a w hs hu hF
    have hc := hcount listed hF.notk hs
    refine toTail 0 listed a w hs (by omega) hF (fun j hj => ?_)
    have hr : Region.ready .any ops listed = [] := by
      cases hc : Region.ready .any ops listed with
      | nil => rfl
      | cons x r =>
        have := unlisted_lt (ops := ops) (listed := listed) (i := x) (by rw [hc]; exact List.mem_cons_self ..)
        omega
    exact all_listed ht hs hr j (by omega)
  | succ fuel ih =>
    intro listed a w hs hu hF
    by_cases hdone : ∀ j, j < k → listed.getD j false = true
    · have hc := hcount listed hF.notk hs
      exact toTail (fuel + 1) listed a w hs (by omega) hF hdone
    refine ⟨fun hr => ?_, fun i hi => ?_⟩
    · exact absurd (fun j hj => all_listed ht hs hr j (by omega)) hdone
    obtain ⟨h0, o, hoi, hall⟩ := mem_ready.1 hi
    have hik : i < k := by
      rcases Nat.lt_or_ge i k with h' | h'
      · exact h'
      · exact absurd (fun j hj => tail_all htl h' hi hF.closed j (by omega)) hdone
    have hst := stepsS_get (ops.toList.take k) 0 i o steps (by rw [List.getElem?_take_of_lt hik, Array.getElem?_toList]; exact hoi)
    rw [Nat.zero_add] at hst
    obtain ⟨⟨d, hd⟩, hst⟩ := hst
    have hex : ∀ j, j < k → (ops.extract 0 k)[j]? = ops[j]? := fun j hj => by
      rw [Array.getElem?_extract_of_lt (by omega)]; simp
    have hat : AtP k ps L B a0 ops o a w := ⟨hF.base, hF.size, hF.ptrs, hF.rest, fun d hd => by
        obtain ⟨k, hk, hb⟩ := Array.any_eq_true.1 hd
        simp only [Bool.and_eq_true, beq_iff_eq] at hb
        have hl := hall _ (Array.getElem_mem hk) hb.1
        cases hx : ops[o.after[k].on]? with
        | none => rw [hx] at hb; cases hb.2
        | some oj => rw [hx] at hb; exact hF.slots _ oj d hx hl hb.2⟩
    refine wpOp_mono (fun a' w' h => ?_) (hst a w hat hoi)
    obtain ⟨v, rfl, hB, hRG, hPt, hG⟩ := h
    have hlt := unlisted_lt hi
    refine ih _ _ _ (by simpa using hs) (by omega) ⟨hB, ?_, ?_, ?_, ?_, ?_, ?_, hPt⟩
    · rw [← hF.size]; cases o.dst <;> simp [Act.put]
    · rw [← hF.defers]; cases o.dst <;> simp [Act.put]
    · intro d hd
      rw [← hF.rest d hd]
      have hne : o.dst ≠ some d := by
        intro e
        have : isDstTo ops k d = true := List.any_eq_true.2 ⟨i, List.mem_range.2 hik, by rw [hoi]; simpa using e⟩
        rw [hd] at this
        cases this
      exact put_getD hne
    · intro j oj d hj hl hd
      have hjk : j < k ∨ j = i := by
        by_cases e : i = j
        · exact Or.inr e.symm
        · rw [getD_set_ne false e] at hl
          rcases Nat.lt_or_ge j k with h' | h'
          · exact Or.inl h'
          · rw [hF.notk j h'] at hl; cases hl
      by_cases e : i = j
      · subst e
        rw [hoi] at hj
        cases hj
        have hd2 := once_lt ho ((hex i hik).trans hoi) hd
        rw [← hF.size] at hd2
        have hG := hG _ hd
        rw [hd]
        simpa [Act.put, hd2] using hG
      · rw [getD_set_ne false e] at hl
        have h1 := hF.slots j oj d hj hl hd
        have hv : (a.put o.dst v).tmps.getD d undef = a.tmps.getD d undef := by
          cases hod : o.dst with
          | none => rfl
          | some d' =>
            have := once_ne ho ((hex i hik).trans hoi) ((hex j (by omega)).trans hj) e hod
            rw [hd] at this
            simp [Act.put, Array.getElem?_setIfInBounds_ne (show d' ≠ d from fun e => this (by rw [e]))]
        rw [hv]
        exact hRG d _ h1
    · intro j oj hj hl e he hb
      by_cases ei : i = j
      · subst ei
        rw [hoi] at hj
        cases hj
        exact getD_set_true (hall e he hb)
      · rw [getD_set_ne false ei] at hl
        exact getD_set_true (hF.closed j oj hj hl e he hb)
    · intro j hj
      rw [getD_set_ne false (by omega)]; exact hF.notk j hj
/-- A REGION THAT DRAWS ITS ORDER, of which the operations from k on go as they stand. -/
theorem wp_region_tail {id : Nat} {w : World} (L : List It) (B : World → Prop) (k : Nat) (hB0 : B w.drew) (hm : P.follows .mixedOrders = true) (ht : topo ops = true) (ho : once (ops.extract 0 k) a0.tmps.size = true) (htl : tailOk ops k = true) (hk : k ≤ ops.size) (hps : SlApart ps a0 w.drew)
    (steps : StepsS k ps P Q L B a0 ops 0 (ops.toList.take k))
    (fin : ∀ a w', B w' → a.tmps.size = a0.tmps.size → a.defers = a0.defers → (∀ d, isDstTo ops k d = false → a.tmps.getD d undef = a0.tmps.getD d undef) →
      (∀ d, isDstTo ops k d = true → its L d (a.tmps.getD d undef) w') → SlApart ps a w' → wpList P ops Q (ops.toList.drop k) a w') : (Code.region id ops true).wp P Q a0 w :=
  wp_region_any hm (flowS_any ht ho htl hk steps fin ops.size _ a0 _ (by simp) (by unfold unlisted; exact Nat.le_trans (List.length_filter_le _ _) (by simp))
    ⟨hB0, rfl, rfl, fun _ _ => rfl, fun j oj d _ hl _ => by
      by_cases h : j < ops.size <;> simp [h] at hl, fun j oj _ hl => by
      by_cases h : j < ops.size <;> simp [h] at hl, fun j _ => by
      by_cases h : j < ops.size <;> simp [h], hps⟩)
/-- the same for a region in the text's order -/
theorem wp_region_plain {id : Nat} {w : World} (L : List It) (B : World → Prop) (k : Nat) (hB0 : B w) (ht : topo ops = true) (ho : once (ops.extract 0 k) a0.tmps.size = true) (hk : k ≤ ops.size) (hps : SlApart ps a0 w)
    (steps : StepsS k ps P Q L B a0 ops 0 (ops.toList.take k))
    (fin : ∀ a w', B w' → a.tmps.size = a0.tmps.size → a.defers = a0.defers → (∀ d, isDstTo ops k d = false → a.tmps.getD d undef = a0.tmps.getD d undef) →
      (∀ d, isDstTo ops k d = true → its L d (a.tmps.getD d undef) w') → SlApart ps a w' → wpList P ops Q (ops.toList.drop k) a w') : (Code.region id ops false).wp P Q a0 w := by
  refine wp_region_list ?_
  have go : ∀ (m i : Nat) (a : Act) (w' : World), i + m = k → B w' → a.tmps.size = a0.tmps.size → a.defers = a0.defers → (∀ d, isDstTo ops k d = false → a.tmps.getD d undef = a0.tmps.getD d undef) →
      (∀ j oj d, j < i → ops[j]? = some oj → oj.dst = some d → its L d (a.tmps.getD d undef) w') → SlApart ps a w' → wpList P ops Q (ops.toList.drop i) a w' := by
    intro m
    induction m with
    | zero =>
      intro i a w' hi hg hs hdf hr hsl hpt
      have hi' : i = k := by omega
      subst hi'
      refine fin a w' hg hs hdf hr (fun d hd => ?_) hpt
      obtain ⟨j, hj, hb⟩ := List.any_eq_true.1 hd
      have hjk := List.mem_range.1 hj
      have hgj : ops[j]? = some ops[j] := Array.getElem?_eq_getElem (by omega)
      rw [hgj] at hb
      exact hsl j _ d hjk hgj (by simpa using hb)
    | succ m ih =>
      intro i a w' hi hg hs hdf hr hsl hpt
      have hik : i < k := by omega
      have hil : i < ops.size := by omega
      have hoi : ops[i]? = some ops[i] := Array.getElem?_eq_getElem hil
      have hst := stepsS_get (ops.toList.take k) 0 i ops[i] steps (by rw [List.getElem?_take_of_lt hik, Array.getElem?_toList]; exact hoi)
      rw [Nat.zero_add] at hst
      obtain ⟨⟨d, hd⟩, hst⟩ := hst
      have hex : ∀ j, j < k → (ops.extract 0 k)[j]? = ops[j]? := fun j hj => by
        rw [Array.getElem?_extract_of_lt (by omega)]; simp
      have hat : AtP k ps L B a0 ops ops[i] a w' := ⟨hg, hs, hpt, hr, fun d hd => by
          obtain ⟨q, hq, hb⟩ := Array.any_eq_true.1 hd
          simp only [Bool.and_eq_true, beq_iff_eq] at hb
          have ht1 := (List.all_eq_true.1 ht) i (List.mem_range.2 hil)
          rw [hoi] at ht1
          simp only [Option.map_some, Option.getD_some] at ht1
          have ht2 := (Array.all_eq_true_iff_forall_mem.1 ht1) _ (Array.getElem_mem hq)
          simp only [hb.1, Bool.not_true, Bool.false_or, decide_eq_true_eq] at ht2
          cases hx : ops[ops[i].after[q].on]? with
          | none => rw [hx] at hb; cases hb.2
          | some oj => rw [hx] at hb; exact hsl _ oj d ht2 hx hb.2⟩
      have hdr : ops.toList.drop i = ops[i] :: ops.toList.drop (i + 1) := by
        rw [List.drop_eq_getElem_cons (by simpa using hil)]
        simp
      rw [hdr]
      refine list_of_wpOp hoi (wpOp_mono (fun a' w'' h => ?_) (hst a w' hat hoi))
      obtain ⟨v, rfl, hB, hRG, hPt, hG⟩ := h
      refine ih (i + 1) _ _ (by omega) hB ?_ ?_ ?_ ?_ hPt
      · rw [← hs]; cases ops[i].dst <;> simp [Act.put]
      · rw [← hdf]; cases ops[i].dst <;> simp [Act.put]
      · intro d hd
        rw [← hr d hd]
        have hne : ops[i].dst ≠ some d := by
          intro e
          have : isDstTo ops k d = true := List.any_eq_true.2 ⟨i, List.mem_range.2 hik, by rw [hoi]; simpa using e⟩
          rw [hd] at this
          cases this
        exact put_getD hne
      · intro j oj d' hj hgj hd'
        by_cases e : i = j
        · subst e
          rw [hoi] at hgj
          cases hgj
          have hd2 := once_lt ho ((hex i hik).trans hoi) hd'
          rw [← hs] at hd2
          have hG := hG _ hd'
          rw [hd']
          simpa [Act.put, hd2] using hG
        · have h1 := hsl j oj d' (by omega) hgj hd'
          have hv : (a.put ops[i].dst v).tmps.getD d' undef = a.tmps.getD d' undef := by
            cases hod : ops[i].dst with
            | none => rfl
            | some d'' =>
              have := once_ne ho ((hex i hik).trans hoi) ((hex j (by omega)).trans hgj) e hod
              rw [hd'] at this
              simp [Act.put, Array.getElem?_setIfInBounds_ne (show d'' ≠ d' from fun e => this (by rw [e]))]
          rw [hv]
          exact hRG d' _ h1
  have := go k 0 a0 w (by omega) hB0 rfl rfl (fun _ _ => rfl) (fun j _ _ hj => by omega) hps
  simpa using this
end
section
variable {P : Program} {ops : Array Oper} {Q : Exit → Act → World → Prop} {L : List It} {W0 : World} {a0 : Act} {ps : List Nat}
abbrev AtT (k : Nat) (ps : List Nat) (L : List It) (W0 : World) (a0 : Act) (ops : Array Oper) (o : Oper) (a : Act) (w : World) : Prop := AtP k ps L (fun w => W0.grownBy w none) a0 ops o a w
abbrev StT (k : Nat) (ps : List Nat) (P : Program) (Q : Exit → Act → World → Prop) (L : List It) (W0 : World) (a0 : Act) (ops : Array Oper) (i : Nat) (o : Oper) : Prop := (∃ d, o.dst = some d) ∧ StepP k ps P Q L (fun w => W0.grownBy w none) a0 ops i o
theorem vT {k i : Nat} {o : Oper} {d : Nat} (hd : o.dst = some d) (hps : (ps.all fun s => s != d) = true)
    (h : ∀ a w, AtT k ps L W0 a0 ops o a w → ∃ v w', Wants ops o a ∧ (execOp a.eval o).run P w = .ok (.value v) w' ∧ w.grownBy w' none ∧ its L d v w') : StT k ps P Q L W0 a0 ops i o :=
  ⟨⟨d, hd⟩, valueP (fun _ _ h k => gb_trans h k) hd hps fun a w hF => by
    obtain ⟨v, w', hw, hr, hg, hG⟩ := h a w hF
    exact ⟨hw, v, w', hr, hg, hG⟩⟩
theorem cT {k i : Nat} {o : Oper} {d : Nat} (hd : o.dst = some d) (hps : (ps.all fun s => s != d) = true)
    (h : ∀ a w, AtT k ps L W0 a0 ops o a w → ∃ f args, Wants ops o a ∧ (execOp a.eval o).run P w = .ok (.enter f args) w ∧ Calls P f args w fun e w' => ∃ v, e = .returned v ∧ w.grownBy w' none ∧ its L d v w') : StT k ps P Q L W0 a0 ops i o :=
  ⟨⟨d, hd⟩, callP (fun _ _ h k => gb_trans h k) hd hps fun a w hF => by
    obtain ⟨f, args, hw, hr, hc⟩ := h a w hF
    exact ⟨hw, f, args, hr, hc⟩⟩
theorem cF {k i : Nat} {o : Oper} {d : Nat} (hd : o.dst = some d) (hlt : d < a0.tmps.size)
    (h : ∀ a w, AtT k ps L W0 a0 ops o a w → ∃ f args, Wants ops o a ∧ (execOp a.eval o).run P w = .ok (.enter f args) w ∧ Calls P f args w fun e w' => ∃ v, e = .returned v ∧ w.grownBy w' none ∧ its L d v w' ∧ ∀ C, blkOf v = some C → w.heap.size ≤ C ∧ C < w'.heap.size) : StT k ps P Q L W0 a0 ops i o :=
  ⟨⟨d, hd⟩, callF (fun _ _ h k => gb_trans h k) hd hlt fun a w hF => by
    obtain ⟨f, args, hw, hr, hc⟩ := h a w hF
    exact ⟨hw, f, args, hr, hc⟩⟩
/-- a new box -/
theorem aT {k i : Nat} {o : Oper} {d : Nat} (T : TypeId) (V : List Value) (hd : o.dst = some d) (hlt : d < a0.tmps.size) (hi : L.getD d .any = .fresh T V W0.heap.size)
    (h : ∀ a w, AtT k ps L W0 a0 ops o a w → Wants ops o a ∧ (execOp a.eval o).run P w = .ok (.value (.pointer (some ⟨w.heap.size, 0, none⟩))) (w.alloc (.cells V.toArray T))) : StT k ps P Q L W0 a0 ops i o :=
  ⟨⟨d, hd⟩, allocP (fun _ _ h k => gb_trans h k) hd hlt fun a w hF => by
    obtain ⟨hw, hr⟩ := h a w hF
    refine ⟨hw, _, hr, World.grownBy_alloc _ _ _, by simp, ?_⟩
    unfold its
    rw [hi]
    exact ⟨w.heap.size, rfl, hF.base.size, Blk.new w V T⟩⟩
theorem sT {k i : Nat} {o : Oper} {d : Nat} (hd : o.dst = some d) (hps : (ps.all fun s => s != d) = true) (hG : ∀ w, its L d undef w)
    (h : ∀ a w, AtT k ps L W0 a0 ops o a w → Region.wanted o (yielded ops a.tmps) = false) : StT k ps P Q L W0 a0 ops i o :=
  ⟨⟨d, hd⟩, skippedP hd hps hG h⟩
theorem region_t {id : Nat} {w : World} (ps : List Nat) (L : List It) (W0 : World) (k : Nat) (hB0 : W0.grownBy w none) (hm : P.follows .mixedOrders = true) (ht : topo ops = true) (ho : once (ops.extract 0 k) a0.tmps.size = true) (htl : tailOk ops k = true) (hk : k ≤ ops.size)
    (hu : (ps.all fun s => (blkOf (a0.tmps.getD s undef)).isNone) = true)
    (steps : StepsS k ps P Q L (fun w => W0.grownBy w none) a0 ops 0 (ops.toList.take k))
    (fin : ∀ a w', W0.grownBy w' none → a.tmps.size = a0.tmps.size → a.defers = a0.defers → (∀ d, isDstTo ops k d = false → a.tmps.getD d undef = a0.tmps.getD d undef) →
      (∀ d, isDstTo ops k d = true → its L d (a.tmps.getD d undef) w') → SlApart ps a w' → wpList P ops Q (ops.toList.drop k) a w') : (Code.region id ops true).wp P Q a0 w :=
  wp_region_tail L (fun w => W0.grownBy w none) k (gb_drew hB0) hm ht ho htl hk (sl_undef hu) steps fin
end
end Fs
end Go.Proofs.YtcmnecnbcohaeaaGreatDoor
