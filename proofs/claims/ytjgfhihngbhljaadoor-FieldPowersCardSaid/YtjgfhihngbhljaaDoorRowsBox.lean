/- A call that answers bytes; rows of bytes that a box holds (cut out of FlowT). -/
import Derived.Test.YtjgfhihngbhljaaDoorRowsAt
namespace Go.Proofs.YtjgfhihngbhljaaDoor
open Go.RowKit Ow
/-- a call that answers bytes -/
def YOut (w : World) (l : List Nat) (e : Ending) (w' : World) : Prop := ∃ a c, e = .returned (.slice a l.length c) ∧ w.grownBy w' none ∧ BytesAt w' w'.heap.size a c l
/-- rows of bytes, that a box holds -/
def rowV (p : Option Addr × Nat × List Nat) : Value := .slice p.1 p.2.2.length p.2.1
theorem rows_box {w : World} (T : TypeId) (P : List (Option Addr × Nat × List Nat)) (h : ∀ p ∈ P, ∃ B, BytesAt w B p.1 p.2.1 p.2.2) :
    RowsAt (w.alloc (.cells (P.map rowV).toArray T)) (w.heap.size + 1) (some ⟨w.heap.size, 0, none⟩) (P.map (·.2.2)) := by
  have hb := Blk.new w (P.map rowV) T
  have hg := gb_alloc (gb_refl w none) (.cells (P.map rowV).toArray T)
  refine ⟨by simp, Or.inr ⟨w.heap.size, 0, rfl, by omega, fun i hi => ?_⟩⟩
  rw [List.length_map] at hi
  have e : P[i]? = some P[i] := List.getElem?_eq_getElem hi
  obtain ⟨B, hB⟩ := h P[i] (List.getElem_mem hi)
  have e2 : (P.map (·.2.2)).getD i [] = P[i].2.2 := by rw [List.getD_eq_getElem?_getD, List.getElem?_map, e]; rfl
  refine ⟨P[i].1, P[i].2.1, ?_, ?_⟩
  · rw [Nat.zero_add, e2]
    exact hb.cell (by rw [List.getElem?_map, e]; rfl)
  · rw [e2]
    exact (hB.stay hg).up (Nat.le_trans hB.lim (by omega)) (by simp)
theorem bytes_box {w : World} (l : List Nat) (h : ∀ i, l.getD i 0 < 256) (hl : l.length < 1000000) : BytesAt (w.alloc (.cells (l.map u8N).toArray 5)) (w.heap.size + 1) (some ⟨w.heap.size, 0, none⟩) l.length l :=
  blk_bytes (tl := []) (by rw [List.append_nil]; exact Blk.new w (l.map u8N) _) rfl (Nat.le_refl _) (by omega) h (by omega) (by simp)
end Go.Proofs.YtjgfhihngbhljaaDoor
