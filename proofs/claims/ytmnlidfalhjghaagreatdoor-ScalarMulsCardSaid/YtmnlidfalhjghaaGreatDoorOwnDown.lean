/- A row of one's own, from an elder bound on. -/
import Derived.Test.YtmnlidfalhjghaaGreatDoorOwnRows
namespace Go.Proofs.YtmnlidfalhjghaaGreatDoor
open Go.RowKit Ow
theorem own_down {w : World} {base b' e n : Nat} {v : Value} {xs : List Value} (h : w.ownsRow base e 1 v n xs) (hb : b' ≤ base) : w.ownsRow b' e 1 v n xs := by
  refine ⟨h.1, ?_⟩
  rcases h.2 with h0 | ⟨g', c', cur, e1, hg, rest⟩
  · exact Or.inl h0
  · exact Or.inr ⟨g', c', cur, e1, Nat.le_trans hb hg, rest⟩
/-- what is written to a row of one's own is new, seen from an elder world -/
theorem own_gb {w a b : World} {e n : Nat} {v : Value} {xs : List Value} (hg : w.grownBy a none) (ho : a.ownsRow w.heap.size e 1 v n xs) (h : a.grownBy b v.ownBlock) : w.grownBy b none := by
  rcases ho.2 with ⟨rfl, _⟩ | ⟨g', c', cur, rfl, hb, _⟩
  · exact gb_trans hg h
  · exact gb_then hg h hb
end Go.Proofs.YtmnlidfalhjghaaGreatDoor
