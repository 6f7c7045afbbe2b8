/- slices.Clone of bytes that are there. -/
import Derived.Test.YtabdegeaifajfaaGreatDoorPart
import Derived.Lib.SliceRun
namespace Go.Proofs.YtabdegeaifajfaaGreatDoor
open Go.RowKit Ow
namespace Mk
set_option maxRecDepth 100000 in
set_option maxHeartbeats 1600000 in
theorem clone_bytes (B pb po n c : Nat) (l : List Nat) (w : World) (hn : l.length = n) (hn0 : 0 < n) (hn1 : n ≤ 1000000) (hP : BytesAt w B (some ⟨pb, po, none⟩) c l) :
    Calls Tryz.prog 30 #[.slice (some ⟨pb, po, none⟩) n c] w fun e w' => ∃ g c', e = .returned (.slice (some ⟨g, 0, none⟩) n c') ∧ w'.ownsRow w.heap.size 5 1 (.slice (some ⟨g, 0, none⟩) n c') n (l.map u8N) ∧ w.grownBy w' none := by
  have hb0 := Blk.new w [] 5
  have ho0 := own_of_blk (base := w.heap.size) hb0 rfl (Nat.le_refl _) (by decide)
  have hP1 := hP.kept (World.grownBy_alloc w (.cells #[] 5) none) (by simp)
  obtain ⟨v', w', hap, ho, hg⟩ := append_bytes (w.alloc (.cells #[] 5)) w.heap.size 0 B c n (.slice (some ⟨w.heap.size, 0, none⟩) 0 0) [] (some ⟨pb, po, none⟩) l ho0 hn hP1 (by omega) (by simp)
  have hg1 := gb_then (gb_alloc (gb_refl w none) (.cells #[] 5)) hg (Nat.le_refl _)
  rw [Nat.zero_add, List.nil_append] at ho
  obtain ⟨g, c', rfl, _⟩ := own_some ho hn0
  have H := Lib.hid (And.intro hap (And.intro ho hg1)); clear hap ho hg hg1 hb0 ho0 hP1 hP hn
  have hq := fun wx => Lib.run_eql_slice_nil (P := Tryz.prog) wx 34 5 (some ⟨pb, po, none⟩) n c 0 0 Tryz.underlying34
  go_enter Tryz.func30, Tryz.ntmps30
  go_wp2_with (at_builtin; refine wpList_append_run rfl (.tmp 5) (.tmp 6) 34 rfl rfl _ _ rfl rfl _ _ H.out.1 ?_)
  go_ret
  exact ⟨g, c', rfl, H.out.2.1, H.out.2.2⟩
end Mk
end Go.Proofs.YtabdegeaifajfaaGreatDoor
