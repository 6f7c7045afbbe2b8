/- A law's arguments: rows of dots, dots. -/
import Derived.Test.YtohcoihdijemfaaVeMem
import Derived.Test.YtohcoihdijemfaaChecked
import Derived.ProofKit
import Derived.OpenShut
import Derived.Deep.SlicePairs
import Derived.Deep.Slices
import Derived.Lib.SmallJoins
import Derived.SizedLaws
namespace Go.Proofs.Ytohcoihdijemfaa
open Go.ChangeShapes Go.WideShapes Go.ChangeAt Go.RowKit Go.Deep Go.Joins Ve
namespace Ve
theorem int_of {H : Type} {enc : TypeId × Value → H} {W : World} {base n : Nat} {sp : Nat → Bool} {hd : Bool} {v : Value} {x : DataW H × List MemPlace} (h : DataW.trod enc Try.prog W base sp hd n 3 [v] = some x) : ∃ k, v = iV k := by
  obtain ⟨k, hk, _⟩ := DataW.trod_int Try.underlying3 h
  exact ⟨k, by simpa using hk⟩
theorem spot0 {W : World} {x : Addr} {v : Value} (h : W.cell? (x.add 0) = some v) : ∃ b off, x = ⟨b, off, none⟩ ∧ b < W.heap.size := by
  obtain ⟨b, off, spot⟩ := x
  have hspot : spot = none := by simpa [Addr.add] using World.cell?_spot h
  subst hspot
  exact ⟨b, off, rfl, by simpa [Addr.add] using block_lt_of_cell h⟩
theorem range_getD' {α : Type} (f : Nat → α) (n i : Nat) (z : α) (h : i < n) : ((List.range n).map f).getD i z = f i := by
  rw [List.getD_eq_getElem?_getD, List.getElem?_map, List.getElem?_range h]; rfl
theorem dots_trod {H : Type} {enc : TypeId × Value → H} {W : World} {a : Option Addr} {len cap : Nat} {x : DataW H × List MemPlace} {fuel : Nat} (hf : DataW.trod enc Try.prog W 0 (fun _ => true) true fuel 23 [.slice a len cap] = some x) :
    ∃ l : List D, l.length = len ∧ len < 9223372036854775808 ∧ DotsAt W W.heap.size a l := by
  rcases open_slice_pairs Try.underlying23 Try.underlying43 (by kernel_rfl) rfl rfl (by kernel_rfl) (by kernel_rfl) hf with ⟨hcs, _⟩ | ⟨b, l, c, m, k, V0, V1, D0, D1, P0, P1, hcs, _, hl, hm, hmm, _, hall⟩
  · simp only [List.cons.injEq, Value.slice.injEq, and_true] at hcs
    obtain ⟨rfl, rfl, rfl⟩ := hcs
    exact ⟨[], rfl, by decide, Nat.le_refl _, Or.inl rfl⟩
  · simp only [List.cons.injEq, Value.slice.injEq, and_true] at hcs
    obtain ⟨rfl, rfl, rfl⟩ := hcs
    simp only [if_true] at hmm
    subst hmm
    have each : ∀ i, i < len → ∃ q : D, V0 i = iV q.1 ∧ V1 i = iV q.2 := fun i hi => by
      obtain ⟨_, _, t0, t1⟩ := hall i (by omega)
      obtain ⟨x0, e0⟩ := int_of t0
      obtain ⟨x1, e1⟩ := int_of t1
      exact ⟨(x0, x1), e0, e1⟩
    obtain ⟨q, hq⟩ := choose_lt each
    refine ⟨(List.range len).map q, by simp, by unfold maxLen at hm; omega, Nat.le_refl _, ?_⟩
    by_cases h0 : len = 0
    · left; simp [h0]
    · have c0 := (hall 0 (by omega)).1
      rw [Nat.zero_mul] at c0
      obtain ⟨pb, po, rfl, hlt⟩ := spot0 c0
      refine Or.inr ⟨pb, po, rfl, hlt, fun i hi => ?_⟩
      simp only [List.length_map, List.length_range] at hi
      obtain ⟨e0, e1, _⟩ := hall i (by omega)
      rw [Addr.add_lit] at e0 e1
      rw [range_getD' _ _ _ _ hi, ← (hq i hi).1, ← (hq i hi).2]
      exact ⟨e0, by rw [Nat.add_assoc]; exact e1⟩
/-- an argument that is a row of dots -/
theorem dots_open {H : Type} {enc : TypeId × Value → H} {W : World} {a : Option Addr} {len cap : Nat} {d : DataW H} {ps : List MemPlace} (h : DataW.Trod enc Try.prog W 0 (fun _ => true) true 23 (.slice a len cap) d ps) :
    ∃ l : List D, l.length = len ∧ len < 9223372036854775808 ∧ DotsAt W W.heap.size a l := by
  obtain ⟨fuel, hf⟩ := h
  exact dots_trod (by simpa [Value.cells] using hf)
/-- .. and what room it has -/
theorem dots_room {H : Type} {enc : TypeId × Value → H} {W : World} {a : Option Addr} {len cap : Nat} {d : DataW H} {ps : List MemPlace} (h : DataW.Trod enc Try.prog W 0 (fun _ => true) true 23 (.slice a len cap) d ps) :
    (a = none → cap = 0) ∧ len ≤ cap ∧ cap < 9223372036854775808 := by
  obtain ⟨fuel, hf⟩ := h
  have hf : DataW.trod enc Try.prog W 0 (fun _ => true) true fuel 23 [.slice a len cap] = some (d, ps) := by simpa [Value.cells] using hf
  rcases open_slice Try.underlying23 hf with ⟨hcs, _⟩ | ⟨b, l, c, _, _, _, _, hcs, _, hl, hm, _⟩
  · simp only [List.cons.injEq, Value.slice.injEq, and_true] at hcs
    exact ⟨fun _ => hcs.2.2, by omega, by omega⟩
  · simp only [List.cons.injEq, Value.slice.injEq, and_true] at hcs
    unfold maxLen at hm
    exact ⟨(fun e => by rw [hcs.1] at e; cases e), by omega, by omega⟩
set_option maxRecDepth 100000 in
/-- an argument that is a dot -/
theorem dot_open {H : Type} {enc : TypeId × Value → H} {W : World} {r : Reach} {b0 : Nat} {v : Value} {d : DataW H} {ps : List MemPlace} (hv : Value.okWide Try.prog W r b0 43 v) (h : DataW.Trod enc Try.prog W 0 (fun _ => true) true 43 v d ps) :
    ∃ x y : Int, v = .agg #[iV x, iV y] := by
  obtain ⟨v0, v1, y0, y1, n, rfl, _, _, t0, t1⟩ := open_agg2 Try.underlying43 (by kernel_rfl) (by kernel_rfl) hv h
  obtain ⟨x, rfl⟩ := int_of t0
  obtain ⟨y, rfl⟩ := int_of t1
  exact ⟨x, y, rfl⟩
end Ve
end Go.Proofs.Ytohcoihdijemfaa
