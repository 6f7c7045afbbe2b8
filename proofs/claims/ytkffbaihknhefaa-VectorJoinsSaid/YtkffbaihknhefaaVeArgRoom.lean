/- Rows of dots as an argument: the room of each. -/
import Derived.Test.YtkffbaihknhefaaVeArg
namespace Go.Proofs.Ytkffbaihknhefaa
open Go.ChangeShapes Go.WideShapes Go.ChangeAt Go.RowKit Go.Deep Go.Joins Ve
namespace Ve
theorem drows_room {H : Type} {enc : TypeId × Value → H} {W : World} {a : Option Addr} {len cap : Nat} {d : DataW H} {ps : List MemPlace} (h : DataW.Trod enc Try.prog W 0 (fun _ => true) true 27 (.slice a len cap) d ps) :
    ∀ k, k < len → ∀ pb po, a = some ⟨pb, po, none⟩ → ∀ ai ni ci, W.cell? ⟨pb, po + k, none⟩ = some (.slice ai ni ci) → ai = none → ci = 0 := by
  obtain ⟨fuel, hf⟩ := h
  have hf : DataW.trod enc Try.prog W 0 (fun _ => true) true fuel 27 [.slice a len cap] = some (d, ps) := by simpa [Value.cells] using hf
  rcases open_slice1 Try.underlying27 (by kernel_rfl) hf with ⟨hcs, _⟩ | ⟨b, l, c, m, k, V, E, Pl, hcs, _, hl, hm, hmm, _, hall⟩
  · simp only [List.cons.injEq, Value.slice.injEq, and_true] at hcs
    obtain ⟨rfl, rfl, rfl⟩ := hcs
    intro k hk
    omega
  · simp only [List.cons.injEq, Value.slice.injEq, and_true] at hcs
    obtain ⟨rfl, rfl, rfl⟩ := hcs
    simp only [if_true] at hmm
    subst hmm
    intro j hj pb po e ai ni ci hcell hnone
    have e0 := (hall j (by omega)).1
    have ht := (hall j (by omega)).2
    simp only [Option.some.injEq] at e
    subst e
    rw [Addr.add_lit, hcell] at e0
    simp only [Option.some.injEq] at e0
    rw [← e0] at ht
    rcases open_slice Try.underlying22 ht with ⟨hcs, _⟩ | ⟨a1, n1, c1, _, _, _, _, hcs, _⟩
    · simp only [List.cons.injEq, Value.slice.injEq, and_true] at hcs
      exact hcs.2.2
    · simp only [List.cons.injEq, Value.slice.injEq, and_true] at hcs
      rw [hcs.1] at hnone; cases hnone
end Ve
end Go.Proofs.Ytkffbaihknhefaa
