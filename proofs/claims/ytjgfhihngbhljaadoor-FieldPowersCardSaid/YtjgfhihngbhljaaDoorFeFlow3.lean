/- field: regions that draw their order over elements, slices of elements and of bytes, with guards: what slots hold, what stays. -/
import Derived.Test.YtjgfhihngbhljaaDoorFeRootW
import Derived.Test.YtjgfhihngbhljaaDoorFlow3
namespace Go.Proofs.YtjgfhihngbhljaaDoor
open Go.RowKit

def fesL (L : List Fe) : List Value := L.flatMap feL
inductive Item3 where
  | any
  | val (x : Value)
  | ptr
  | elems (n : Nat) (L : List Fe)
  | bytes (x : Int)
def Item3.holds (K : Nat → Prop) : Item3 → Value → World → Prop
  | .any, _, _ => True
  | .val x, v, _ => v = x
  | .ptr, v, w => ∃ Bn, v = .pointer (some ⟨Bn, 0, none⟩) ∧ Room5 w Bn 24 ∧ K Bn
  | .elems n L, v, w => ∃ PB, v = .slice (some ⟨PB, 0, none⟩) n n ∧ Blk w PB 24 (fesL L)
  | .bytes x, v, w => ∃ NB, v = .slice (some ⟨NB, 0, none⟩) 32 32 ∧ ∃ T, Blk w NB T (bytesV x)
def Item3.plain : Item3 → Bool
  | .elems _ _ => false
  | .bytes _ => false
  | _ => true
def items3 (K : Nat → Prop) (L : List Item3) (d : Nat) (v : Value) (w : World) : Prop := (L.getD d .any).holds K v w
theorem items3_grown {K : Nat → Prop} {L : List Item3} {w w' : World} (hg : w.grownBy w' none) (d : Nat) (v : Value) (h : items3 K L d v w) : items3 K L d v w' := by
  unfold items3 at *
  cases hx : L.getD d .any with
  | any => trivial
  | val x => rw [hx] at h; exact h
  | ptr => rw [hx] at h; obtain ⟨Bn, hv, hr, hN⟩ := h; exact ⟨Bn, hv, hr.grown hg (by simp), hN⟩
  | elems n E => rw [hx] at h; obtain ⟨Bn, hv, hr⟩ := h; exact ⟨Bn, hv, hr.grown hg (by simp)⟩
  | bytes x => rw [hx] at h; obtain ⟨Bn, hv, T, hr⟩ := h; exact ⟨Bn, hv, T, hr.grown hg (by simp)⟩
theorem items3_set {K : Nat → Prop} {L : List Item3} (hp : L.all Item3.plain = true) {w : World} (B : Nat) (r : Fe) (d : Nat) (v : Value) (h : items3 K L d v w) : items3 K L d v (set5W w B r) := by
  unfold items3 at *
  have hpl : (L.getD d .any).plain = true := by
    rw [List.getD_eq_getElem?_getD]
    cases hx : L[d]? with
    | none => rfl
    | some x => exact (List.all_eq_true.1 hp) x (List.mem_of_getElem? hx)
  cases hx : L.getD d .any with
  | any => trivial
  | val x => rw [hx] at h; exact h
  | ptr => rw [hx] at h; obtain ⟨Bn, hv, hr, hN⟩ := h; exact ⟨Bn, hv, set5W_room hr B, hN⟩
  | elems n E => rw [hx] at hpl; cases hpl
  | bytes x => rw [hx] at hpl; cases hpl
def Stored3 (K : Nat → Prop) (r : Nat → Fe) (j : Nat) (u : Value) (w : World) : Prop := ∃ Bn, u = .pointer (some ⟨Bn, 0, none⟩) ∧ K Bn ∧ Blk w Bn 24 (feL (r j))
theorem stored3_grown {K : Nat → Prop} {r : Nat → Fe} {w w' : World} (hg : w.grownBy w' none) (j : Nat) (u : Value) (h : Stored3 K r j u w) : Stored3 K r j u w' := by
  obtain ⟨Bn, hu, hN, hb⟩ := h
  exact ⟨Bn, hu, hN, hb.grown hg (by simp)⟩
section
variable {P : Program} {ops : Array Oper} {Q : Exit → Act → World → Prop} {K : Nat → Prop} {L : List Item3} {r : Nat → Fe} {w0 : World} {N : Nat} {env : List (Nat × Fe)} {rooms : List Nat} {st : Nat → Nat} {ps : List Nat} {a0 : Act}
theorem fe3_value {i : Nat} {o : Oper} {d : Nat} (hd : o.dst = some d) (hps : (ps.all fun s => s != d) = true)
    (h : ∀ a w, FlowAt3 (items3 K L) st (Stored3 K r) (EnvB w0 N env rooms) ps a0 ops o a w → Wants ops o a ∧ ∃ v w', (execOp a.eval o).run P w = .ok (.value v) w' ∧ w.grownBy w' none ∧ items3 K L d v w') :
    FlowStep3 P Q (items3 K L) st (Stored3 K r) (EnvB w0 N env rooms) ps a0 ops i o :=
  flow3_value hd fun a w hF => by
    obtain ⟨hw, v, w', hr, hg, hG⟩ := h a w hF
    refine ⟨hw, v, w', hr, hF.base.grown hg, items3_grown hg, stored3_grown hg, ptrs_put hF.ptrs hg.size (fun s hs e => ?_), hG⟩
    have := (List.all_eq_true.1 hps) s hs
    rw [Option.some.inj e] at this
    simp at this
theorem fe3_alloc {i : Nat} {o : Oper} {d : Nat} (hd : o.dst = some d) (hlt : d < a0.tmps.size)
    (h : ∀ a w, FlowAt3 (items3 K L) st (Stored3 K r) (EnvB w0 N env rooms) ps a0 ops o a w → Wants ops o a ∧ ∃ w', (execOp a.eval o).run P w = .ok (.value (.pointer (some ⟨w.heap.size, 0, none⟩))) w' ∧ w.grownBy w' none ∧ w.heap.size < w'.heap.size ∧ items3 K L d (.pointer (some ⟨w.heap.size, 0, none⟩)) w') :
    FlowStep3 P Q (items3 K L) st (Stored3 K r) (EnvB w0 N env rooms) ps a0 ops i o :=
  flow3_value hd fun a w hF => by
    obtain ⟨hw, w', hr, hg, hs, hG⟩ := h a w hF
    exact ⟨hw, _, w', hr, hF.base.grown hg, items3_grown hg, stored3_grown hg, ptrs_new hF.ptrs hs (by rw [hF.size]; exact hlt), hG⟩
theorem fe3_call {i : Nat} {o : Oper} {d : Nat} (hd : o.dst = some d) (hps : (ps.all fun s => s != d) = true)
    (h : ∀ a w, FlowAt3 (items3 K L) st (Stored3 K r) (EnvB w0 N env rooms) ps a0 ops o a w → Wants ops o a ∧ ∃ f args, (execOp a.eval o).run P w = .ok (.enter f args) w ∧ Calls P f args w fun e w' => ∃ v, e = .returned v ∧ w.grownBy w' none ∧ items3 K L d v w') :
    FlowStep3 P Q (items3 K L) st (Stored3 K r) (EnvB w0 N env rooms) ps a0 ops i o :=
  flow3_call hd fun a w hF => by
    obtain ⟨hw, f, args, hr, hc⟩ := h a w hF
    refine ⟨hw, f, args, hr, hc.mono fun e w' he => ?_⟩
    obtain ⟨v, rfl, hg, hG⟩ := he
    refine ⟨v, rfl, hF.base.grown hg, items3_grown hg, stored3_grown hg, ptrs_put hF.ptrs hg.size (fun s hs e => ?_), hG⟩
    have := (List.all_eq_true.1 hps) s hs
    rw [Option.some.inj e] at this
    simp at this
theorem fe3_store {i p : Nat} {o : Oper} (hd : o.dst = none) (hst : st i = p) (hpl : L.all Item3.plain = true) (hK : K = Okb w0 env)
    (hap : ∀ j oj, j ≠ i → ops[j]? = some oj → oj.dst = none → st j ∈ ps ∧ st j ≠ p) (hp : p ∈ ps ∨ ∀ j oj, j ≠ i → ops[j]? = some oj → oj.dst ≠ none)
    (h : ∀ a w, FlowAt3 (items3 K L) st (Stored3 K r) (EnvB w0 N env rooms) ps a0 ops o a w → Wants ops o a ∧ ∃ Bn, a.tmps.getD p undef = .pointer (some ⟨Bn, 0, none⟩) ∧ K Bn ∧ Room5 w Bn 24 ∧ (execOp a.eval o).run P w = .ok .skip (set5W w Bn (r i))) :
    FlowStep3 P Q (items3 K L) st (Stored3 K r) (EnvB w0 N env rooms) ps a0 ops i o :=
  flow3_store hd fun a w hF => by
    obtain ⟨hw, Bn, hu, hk, hroom, hr⟩ := h a w hF
    refine ⟨hw, _, hr, hF.base.set (hK ▸ hk) _, items3_set hpl Bn _, fun j oj hj hoj hn hM => ?_, by simp [set5W, World.setCell], by rw [hst]; exact ⟨Bn, hu, hk, set5W_same hroom⟩⟩
    obtain ⟨C, hC, hkC, hb⟩ := hM
    refine ⟨C, hC, hkC, set5W_other hb ?_⟩
    intro e
    subst e
    obtain ⟨h1, h2⟩ := hap j oj hj hoj hn
    rcases hp with hp | hp
    · exact (hF.ptrs p hp _ hu).2 (st j) h1 h2 hC
    · exact hp j oj hj hoj hn
end
/-- what a row of elements, all right, is to 'right' -/
def rightB (a : Fe) : Bool := decide (a.x0 < 4503599627370496 ∧ a.x1 < 4503599627370496 ∧ a.x2 < 4503599627370496 ∧ a.x3 < 4503599627370496 ∧ a.x4 < 4503599627370496)
theorem rightB_is {a : Fe} (h : a.Ok) : rightB a = true ↔ a.Right := by
  unfold rightB
  rw [decide_eq_true_iff]
  obtain ⟨n0, n1, n2, n3, n4, _, _, _, _, _⟩ := h
  exact ⟨fun ⟨a, b, c, d, e⟩ => ⟨n0, n1, n2, n3, n4, a, b, c, d, e⟩, fun h => ⟨h.l0, h.l1, h.l2, h.l3, h.l4⟩⟩
theorem fesL_get (L : List Fe) (k i : Nat) (hk : k < L.length) (hi : i < 5) : (fesL L)[5 * k + i]? = some (.int .u64 ((L.getD k Fe.zeroF).at i)) := by
  induction L generalizing k with
  | nil => simp at hk
  | cons x r ih =>
    cases k with
    | zero =>
      show (feL x ++ fesL r)[5 * 0 + i]? = _
      rw [List.getElem?_append_left (by show 5 * 0 + i < 5; omega)]
      obtain rfl | rfl | rfl | rfl | rfl : i = 0 ∨ i = 1 ∨ i = 2 ∨ i = 3 ∨ i = 4 := by omega
      all_goals rfl
    | succ k =>
      show (feL x ++ fesL r)[5 * (k + 1) + i]? = _
      rw [List.getElem?_append_right (by show 5 ≤ _; omega), show 5 * (k + 1) + i - (feL x).length = 5 * k + i by show 5 * (k + 1) + i - 5 = _; omega]
      exact ih k (by simpa using hk)
end Go.Proofs.YtjgfhihngbhljaaDoor
