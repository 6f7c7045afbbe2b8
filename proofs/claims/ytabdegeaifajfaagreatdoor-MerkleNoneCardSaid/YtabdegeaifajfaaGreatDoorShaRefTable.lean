/- The document's own answer: its tables. -/
import Derived.Test.YtabdegeaifajfaaGreatDoorShaRefWhole
namespace Go.Proofs.YtabdegeaifajfaaGreatDoor
open Go.RowKit

theorem blk_words {w : World} {g : Nat} {T : TypeId} {l : List Nat} (h : Blk w g T (l.map u64V)) : WordsAt w g 0 l :=
  ⟨h.lt, fun i hi => h.cell (by rw [Nat.zero_add, List.getElem?_map, List.getElem?_eq_getElem hi]; simp [List.getD_eq_getElem?_getD, List.getElem?_eq_getElem hi])⟩
theorem two_tables (w : World) (A B : Array Value) (T : TypeId) (hA : A = (Sha.first.list.map u64V).toArray) (hB : B = (Sha.K.map u64V).toArray) :
    w.grownBy ((w.alloc (.cells A T)).alloc (.cells B T)) none ∧ WordsAt ((w.alloc (.cells A T)).alloc (.cells B T)) w.heap.size 0 Sha.first.list ∧ WordsAt ((w.alloc (.cells A T)).alloc (.cells B T)) (w.heap.size + 1) 0 Sha.K := by
  subst hA
  subst hB
  refine ⟨gb_alloc (gb_alloc (gb_refl _ _) _) _, blk_words ((Blk.new w (Sha.first.list.map u64V) T).alloc _), ?_⟩
  have h := Blk.new (w.alloc (.cells (Sha.first.list.map u64V).toArray T)) (Sha.K.map u64V) T
  have e : ∀ A, (w.alloc (.cells A T)).heap.size = w.heap.size + 1 := fun A => Array.size_push _
  rw [e] at h
  exact blk_words h

set_option maxRecDepth 100000 in
set_option maxHeartbeats 1000000 in
theorem refTable_any (w : World) :
    Calls Tryz.prog 39 #[] w fun e w' => ∃ g, e = .returned (.tuple #[.slice (some ⟨g, 0, none⟩) 8 8, .slice (some ⟨g + 1, 0, none⟩) 80 80]) ∧ w.grownBy w' none ∧ WordsAt w' g 0 Sha.first.list ∧ WordsAt w' (g + 1) 0 Sha.K := by
  go_enter Tryz.func39, Tryz.ntmps39
  go_wp2
  go_ret2
  exact ⟨w.heap.size, rfl, two_tables w _ _ _ rfl rfl⟩

end Go.Proofs.YtabdegeaifajfaaGreatDoor
