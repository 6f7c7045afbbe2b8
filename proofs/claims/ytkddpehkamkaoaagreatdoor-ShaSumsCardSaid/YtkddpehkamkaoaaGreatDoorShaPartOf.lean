/- Bytes in memory, as a part, and back. -/
import Derived.Test.YtkddpehkamkaoaaGreatDoorShaTogether
import Derived.Test.YtkddpehkamkaoaaGreatDoorOwn
namespace Go.Proofs.YtkddpehkamkaoaaGreatDoor
open Go.RowKit

theorem part_of {w : World} {B0 B cap : Nat} {a : Option Addr} {l : List Nat} (h : Ow.BytesAt w B0 a cap l) (hB : ∀ pb po, a = some ⟨pb, po, none⟩ → pb ≠ B) : PartAt w B a cap l := by
  refine ⟨h.fits, h.byte, ?_⟩
  rcases h.cells with h0 | ⟨pb, po, e, hlt, hc⟩
  · exact Or.inl h0
  · exact Or.inr ⟨pb, po, e, hB pb po e, Nat.lt_of_lt_of_le hlt h.lim, hc⟩
theorem part_below {w : World} {B0 B cap : Nat} {a : Option Addr} {l : List Nat} (h : Ow.BytesAt w B0 a cap l) (hB : B0 ≤ B) : PartAt w B a cap l := by
  refine ⟨h.fits, h.byte, ?_⟩
  rcases h.cells with h0 | ⟨pb, po, e, hlt, hc⟩
  · exact Or.inl h0
  · exact Or.inr ⟨pb, po, e, by omega, Nat.lt_of_lt_of_le hlt h.lim, hc⟩
theorem bytes_of {w : World} {B cap : Nat} {a : Option Addr} {l : List Nat} (h : PartAt w B a cap l) (hc : cap < 9223372036854775808) : Ow.BytesAt w w.heap.size a cap l := by
  refine ⟨Nat.le_refl _, h.cap, hc, h.byte, ?_⟩
  rcases h.cells with h0 | ⟨pb, po, e, _, hlt, hk⟩
  · exact Or.inl h0
  · exact Or.inr ⟨pb, po, e, hlt, hk⟩
theorem joined_byte (ps : List Part) (h : ∀ p ∈ ps, ∀ i, p.l.getD i 0 < 256) : ∀ i, (joined ps).getD i 0 < 256 := by
  refine small_byte _ fun x hx => ?_
  unfold joined at hx
  obtain ⟨p, hp, hxp⟩ := List.mem_flatMap.1 hx
  obtain ⟨j, hj, rfl⟩ := List.mem_iff_getElem.1 hxp
  have := h p hp j
  rwa [List.getD_eq_getElem?_getD, List.getElem?_eq_getElem hj] at this
end Go.Proofs.YtkddpehkamkaoaaGreatDoor
