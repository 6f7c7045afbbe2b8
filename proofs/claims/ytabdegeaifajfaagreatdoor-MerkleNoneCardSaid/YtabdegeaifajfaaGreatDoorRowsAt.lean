/- Rows of bytes, in a row. -/
import Derived.Test.YtabdegeaifajfaaGreatDoorOwn
namespace Go.Proofs.YtabdegeaifajfaaGreatDoor
open Go.RowKit Ow

/-- rows of bytes, in a row, all below block B -/
structure RowsAt (w : World) (B : Nat) (a : Option Addr) (L : List (List Nat)) : Prop where
  lim : B ≤ w.heap.size
  cells : L.length = 0 ∨ ∃ pb po, a = some ⟨pb, po, none⟩ ∧ pb < B ∧ ∀ i, i < L.length → ∃ ai ci, w.cell? ⟨pb, po + i, none⟩ = some (.slice ai (L.getD i []).length ci) ∧ BytesAt w B ai ci (L.getD i [])
theorem RowsAt.kept {w w' : World} {B : Nat} {a : Option Addr} {L : List (List Nat)} (h : RowsAt w B a L) {row : Option Nat} (hg : w.grownBy w' row) (hr : ∀ r, row = some r → B ≤ r) : RowsAt w' B a L := by
  refine ⟨Nat.le_trans h.lim hg.size, ?_⟩
  rcases h.cells with h0 | ⟨pb, po, ha, hlt, hc⟩
  · exact Or.inl h0
  · refine Or.inr ⟨pb, po, ha, hlt, fun i hi => ?_⟩
    obtain ⟨ai, ci, h1, h2⟩ := hc i hi
    exact ⟨ai, ci, by rw [gb_cell hg (p := ⟨pb, po + i, none⟩) (Nat.lt_of_lt_of_le hlt h.lim) (fun e => by have := hr _ e.symm; simp at this; omega)]; exact h1, h2.kept hg hr⟩
theorem RowsAt.stay {w w' : World} {B : Nat} {a : Option Addr} {L : List (List Nat)} (h : RowsAt w B a L) (hg : w.grownBy w' none) : RowsAt w' B a L := h.kept hg (fun r e => by cases e)
theorem RowsAt.at {w : World} {B : Nat} {a : Option Addr} {L : List (List Nat)} (h : RowsAt w B a L) {i : Nat} (hi : i < L.length) : ∃ pb po ai ci, a = some ⟨pb, po, none⟩ ∧ pb < B ∧ w.cell? ⟨pb, po + i, none⟩ = some (.slice ai (L.getD i []).length ci) ∧ BytesAt w B ai ci (L.getD i []) := by
  obtain ⟨pb, po, h1, h2, h3⟩ := h.cells.resolve_left (by omega)
  obtain ⟨ai, ci, h4, h5⟩ := h3 i hi
  exact ⟨pb, po, ai, ci, h1, h2, h4, h5⟩
end Go.Proofs.YtabdegeaifajfaaGreatDoor
