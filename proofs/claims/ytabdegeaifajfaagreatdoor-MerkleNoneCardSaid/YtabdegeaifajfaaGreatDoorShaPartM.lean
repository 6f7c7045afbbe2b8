/- Bytes that are a part: what the laws' texts and the document's share (cut out of ShaAwake). -/
import Derived.Test.YtabdegeaifajfaaGreatDoorShaHash
import Derived.Lib.SlBytesConst
namespace Go.Proofs.YtabdegeaifajfaaGreatDoor
open Go.RowKit

theorem PartAt.take {w : World} {B cap : Nat} {a : Option Addr} {p : List Nat} (h : PartAt w B a cap p) (n : Nat) : PartAt w B a cap (p.take n) := by
  have hl : (p.take n).length ≤ p.length := by rw [List.length_take]; omega
  refine ⟨Nat.le_trans hl h.cap, shaGetD_take_lt _ _ h.byte, ?_⟩
  by_cases h0 : (p.take n).length = 0
  · exact Or.inl h0
  · obtain ⟨pb, po, e, hne, hlt, hc⟩ := h.cells.resolve_left (by omega)
    refine Or.inr ⟨pb, po, e, hne, hlt, fun i hi => ?_⟩
    rw [List.length_take] at hi
    rw [shaGetD_take _ _ _ (by omega)]; exact hc i (by omega)
theorem Blk.part {w : World} {B NB T : Nat} {l : List Nat} (h : Blk w NB T (l.map u8V)) (hne : NB ≠ B) (hb : ∀ i, l.getD i 0 < 256) : PartAt w B (some ⟨NB, 0, none⟩) l.length l :=
  ⟨Nat.le_refl _, hb, Or.inr ⟨NB, 0, rfl, hne, h.lt, fun i hi => h.cell (by rw [Nat.zero_add, List.getElem?_map, List.getElem?_eq_getElem hi]; simp [List.getD_eq_getElem?_getD, List.getElem?_eq_getElem hi])⟩⟩
theorem PartAt.drewN {w : World} {B cap : Nat} {a : Option Addr} {p : List Nat} (h : PartAt w B a cap p) (n : Nat) : PartAt (w.drewN n) B a cap p := ⟨h.cap, h.byte, h.cells⟩

theorem sum_byte (l : List Nat) : ∀ i, (Sha.sum l).getD i 0 < 256 := by
  have all : ∀ x ∈ Sha.sum l, x < 256 := by
    intro x hx
    have hb : ∀ y i, Sha.byte y i < 256 := fun y i => Nat.mod_lt _ (by decide)
    unfold Sha.sum Sha.S.bytes at hx
    obtain ⟨y, _, hy⟩ := List.mem_flatMap.1 hx
    simp only [Sha.wbytes, List.mem_cons, List.not_mem_nil, or_false] at hy
    rcases hy with h | h | h | h | h | h | h | h <;> (rw [h]; exact hb _ _)
  intro i
  by_cases h : i < (Sha.sum l).length
  · rw [List.getD_eq_getElem?_getD, List.getElem?_eq_getElem h]; exact all _ (List.getElem_mem h)
  · rw [List.getD_eq_getElem?_getD, List.getElem?_eq_none (by omega)]; decide

theorem small_byte (l : List Nat) (h : ∀ x ∈ l, x < 256) (i : Nat) : l.getD i 0 < 256 := by
  by_cases hi : i < l.length
  · rw [List.getD_eq_getElem?_getD, List.getElem?_eq_getElem hi]; exact h _ (List.getElem_mem hi)
  · rw [List.getD_eq_getElem?_getD, List.getElem?_eq_none (by omega)]; decide
/-- bytes in a block that bears a mark -/
theorem marked_part (w : World) (l : List Nat) (T : TypeId) (f : Nat × Nat) (B : Nat) (hne : w.heap.size ≠ B) (hb : ∀ i, l.getD i 0 < 256) :
    PartAt (w.alloc (.cells (l.map u8V).toArray T f)) B (some ⟨w.heap.size, 0, none⟩) l.length l :=
  ⟨Nat.le_refl _, hb, Or.inr ⟨w.heap.size, 0, rfl, hne, by simp, fun i hi => by
    have h : (w.alloc (.cells (l.map u8V).toArray T f)).heap[w.heap.size]? = some (.cells (l.map u8V).toArray T f) := heap_alloc_new _ _
    rw [Nat.zero_add]
    unfold World.cell?
    rw [h]
    simp [List.getElem?_eq_getElem hi]⟩⟩
theorem conv_second (w : World) (o : Obj) (C : Array Value) (n c : Nat) : (convert 34 34 (.slice (some ⟨w.heap.size + 1, 0, none⟩) n c)).run Tryz.prog ((w.alloc o).alloc (.cells C 5)) = .ok (.slice (some ⟨w.heap.size + 1, 0, none⟩) n c) ((w.alloc o).alloc (.cells C 5 (C.size, C.size + 1))) := by
  have h := Lib.run_convert_bytes_const (P := Tryz.prog) (w.alloc o) 34 5 C n c Tryz.underlying34 Tryz.underlying5
  rw [World.size_alloc] at h; exact h

end Go.Proofs.YtabdegeaifajfaaGreatDoor
