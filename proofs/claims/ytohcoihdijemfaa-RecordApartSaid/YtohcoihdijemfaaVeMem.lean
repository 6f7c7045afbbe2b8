/- Rows of dots: what lies below a bound and stays. -/
import Derived.Test.YtohcoihdijemfaaProg
import Derived.Test.YtohcoihdijemfaaShaMem
import Derived.Test.YtohcoihdijemfaaVeM
import Derived.Laws.AppendOwn
import Derived.Laws.OwnMore
namespace Go.Proofs.Ytohcoihdijemfaa
open Go.RowKit
namespace Ve
abbrev iV (n : Int) : Value := .int .i64 n
/-- a slice of the dots l, that lie below block B -/
structure DotsAt (w : World) (B : Nat) (a : Option Addr) (l : List D) : Prop where
  lim : B ≤ w.heap.size
  cells : l.length = 0 ∨ ∃ pb po, a = some ⟨pb, po, none⟩ ∧ pb < B ∧ ∀ i, i < l.length → w.cell? ⟨pb, po + i * 2, none⟩ = some (iV (l.getD i z0).1) ∧ w.cell? ⟨pb, po + i * 2 + 1, none⟩ = some (iV (l.getD i z0).2)
theorem DotsAt.kept {w w' : World} {B : Nat} {a : Option Addr} {l : List D} (h : DotsAt w B a l) {row : Option Nat} (hg : w.grownBy w' row) (hr : ∀ r, row = some r → B ≤ r) : DotsAt w' B a l := by
  refine ⟨Nat.le_trans h.lim hg.size, ?_⟩
  rcases h.cells with h0 | ⟨pb, po, ha, hlt, hc⟩
  · exact Or.inl h0
  · have e : ∀ o, w'.cell? ⟨pb, o, none⟩ = w.cell? ⟨pb, o, none⟩ := fun o => gb_cell hg (p := ⟨pb, o, none⟩) (Nat.lt_of_lt_of_le hlt h.lim) (fun e => by have := hr _ e.symm; simp at this; omega)
    exact Or.inr ⟨pb, po, ha, hlt, fun i hi => by rw [e, e]; exact hc i hi⟩
theorem DotsAt.stay {w w' : World} {B : Nat} {a : Option Addr} {l : List D} (h : DotsAt w B a l) (hg : w.grownBy w' none) : DotsAt w' B a l := h.kept hg (fun r e => by cases e)
theorem DotsAt.up' {w : World} {B B' : Nat} {a : Option Addr} {l : List D} (h : DotsAt w B a l) (hB : B ≤ B') (hl : B' ≤ w.heap.size) : DotsAt w B' a l := by
  refine ⟨hl, ?_⟩
  rcases h.cells with h0 | ⟨pb, po, ha, hlt, hc⟩
  · exact Or.inl h0
  · exact Or.inr ⟨pb, po, ha, by omega, hc⟩
end Ve
end Go.Proofs.Ytohcoihdijemfaa
