/- Regions that draw their order, whatever is in their slots: values, slices of bytes, with guards; no stores. -/
import Derived.Test.YtabdegeaifajfaaGreatDoorFlow3
import Derived.Test.YtabdegeaifajfaaGreatDoorOwn
namespace Go.Proofs.YtabdegeaifajfaaGreatDoor
open Go.RowKit Ow
namespace Fg
def AllAt (a : Act) : Nat → List Value → Prop
  | _, [] => True
  | i, v :: r => a.tmps.getD i undef = v ∧ AllAt a (i + 1) r
theorem allAt_get {a : Act} : ∀ (vs : List Value) (i k : Nat) (v : Value), AllAt a i vs → vs[k]? = some v → a.tmps.getD (i + k) undef = v := by
  intro vs
  induction vs with
  | nil => intro i k v _ h; simp at h
  | cons x r ih =>
    intro i k v h hk
    cases k with
    | zero => simp at hk; subst hk; exact h.1
    | succ k => have := ih (i + 1) k v h.2 (by simpa using hk); rwa [show i + (k + 1) = i + 1 + k by omega]
theorem frame_is {a : Act} {vs : List Value} (hs : a.tmps.size = vs.length) (h : AllAt a 0 vs) (hd : a.defers = []) : a = { tmps := vs.toArray, defers := [] } := by
  have ht : a.tmps = vs.toArray := by
    apply Array.ext_getElem?
    intro i
    by_cases hi : i < a.tmps.size
    · have h2 : i < vs.length := by omega
      have := allAt_get vs 0 i vs[i] h (List.getElem?_eq_getElem h2)
      rw [Nat.zero_add] at this
      simp [hi] at this
      rw [Array.getElem?_eq_getElem hi, this]
      simp [h2]
    · rw [Array.getElem?_eq_none (by omega), Array.getElem?_eq_none (by simp; omega)]
  cases a
  simp at ht hd
  rw [ht, hd]

/-- what a slot has, and keeps -/
structure It where
  p : Value → World → Prop
  m : ∀ v w w', p v w → w.grownBy w' none → p v w'
def It.any : It := ⟨fun _ _ => True, fun _ _ _ _ _ => trivial⟩
def It.val (x : Value) : It := ⟨fun v _ => v = x, fun _ _ _ h _ => h⟩
/-- a slice of n bytes -/
def It.byt (n : Nat) (l : List Nat) : It := ⟨fun v w => ∃ a cap B, v = .slice a n cap ∧ BytesAt w B a cap l, fun _ _ _ ⟨a, cap, B, e, h⟩ hg => ⟨a, cap, B, e, h.stay hg⟩⟩
def its (L : List It) (d : Nat) (v : Value) (w : World) : Prop := (L.getD d .any).p v w
theorem its_grown {L : List It} {w w' : World} (hg : w.grownBy w' none) (d : Nat) (v : Value) (h : its L d v w) : its L d v w' := (L.getD d .any).m _ _ _ h hg
section
variable {P : Program} {ops : Array Oper} {Q : Exit → Act → World → Prop} {L : List It} {w0 : World} {a0 : Act}
abbrev At (L : List It) (w0 : World) (a0 : Act) (ops : Array Oper) (o : Oper) (a : Act) (w : World) : Prop := FlowAt3 (its L) (fun _ => 0) (fun _ _ _ => True) (fun w => w0.grownBy w none) [] a0 ops o a w
abbrev Step (P : Program) (Q : Exit → Act → World → Prop) (L : List It) (w0 : World) (a0 : Act) (ops : Array Oper) (i : Nat) (o : Oper) : Prop := FlowStep3 P Q (its L) (fun _ => 0) (fun _ _ _ => True) (fun w => w0.grownBy w none) [] a0 ops i o
theorem ptrs_nil (a : Act) (w : World) : PtrsApart [] a w := by unfold PtrsApart; simp
theorem value {i : Nat} {o : Oper} {d : Nat} (hd : o.dst = some d)
    (h : ∀ a w, At L w0 a0 ops o a w → Wants ops o a ∧ ∃ v w', (execOp a.eval o).run P w = .ok (.value v) w' ∧ w.grownBy w' none ∧ its L d v w') : Step P Q L w0 a0 ops i o :=
  flow3_value hd fun a w hF => by
    obtain ⟨hw, v, w', hr, hg, hG⟩ := h a w hF
    exact ⟨hw, v, w', hr, gb_trans hF.base hg, fun d u => its_grown hg d u, fun _ _ h => h, ptrs_nil _ _, hG⟩
theorem call {i : Nat} {o : Oper} {d : Nat} (hd : o.dst = some d)
    (h : ∀ a w, At L w0 a0 ops o a w → Wants ops o a ∧ ∃ f args, (execOp a.eval o).run P w = .ok (.enter f args) w ∧ Calls P f args w fun e w' => ∃ v, e = .returned v ∧ w.grownBy w' none ∧ its L d v w') : Step P Q L w0 a0 ops i o :=
  flow3_call hd fun a w hF => by
    obtain ⟨hw, f, args, hr, hc⟩ := h a w hF
    refine ⟨hw, f, args, hr, hc.mono fun e w' he => ?_⟩
    obtain ⟨v, rfl, hg, hG⟩ := he
    exact ⟨v, rfl, gb_trans hF.base hg, fun d u => its_grown hg d u, fun _ _ h => h, ptrs_nil _ _, hG⟩
theorem skipped {i : Nat} {o : Oper} {d : Nat} (hd : o.dst = some d) (hG : ∀ w, its L d undef w)
    (h : ∀ a w, At L w0 a0 ops o a w → Region.wanted o (yielded ops a.tmps) = false) : Step P Q L w0 a0 ops i o :=
  flow3_skipped hd (fun s hs => by cases hs) (fun w _ => hG w) h
theorem no_store {ops : Array Oper} (h : (ops.toList.all fun o => o.dst.isSome) = true) : stOk ops (fun _ => 0) = true := by
  unfold stOk
  rw [List.all_eq_true]
  intro j hj
  have hj2 := List.mem_range.1 hj
  rw [Array.getElem?_eq_getElem hj2]
  have := List.all_eq_true.1 h ops[j] (by simp)
  simp [this]
end
theorem not_wants_undef {ops : Array Oper} {o : Oper} {a : Act} {j d : Nat} {b : Bool} (h : o.guard = some (j, b)) (hj : (ops[j]?).bind (·.dst) = some d) (hd : d < a.tmps.size) (hv : a.tmps.getD d undef = undef) : Region.wanted o (yielded ops a.tmps) = false := by
  unfold Region.wanted yielded
  rw [h]
  have : a.tmps[d]? = some undef := by
    rw [Array.getElem?_eq_getElem hd]
    simp [hd] at hv
    rw [hv]
  simp [hj, this, undef]
end Fg
end Go.Proofs.YtabdegeaifajfaaGreatDoor
