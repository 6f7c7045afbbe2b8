/- sha: Copy. -/
import Derived.Test.YtpekckanfboalaaDoorShaHash
namespace Go.Proofs.YtpekckanfboalaaDoor
open Go.RowKit
set_option maxRecDepth 100000 in
set_option maxHeartbeats 1000000 in
theorem copy_hash (B : Nat) (l : List Nat) (w : World) (hH : IsHash w B B l) :
    Calls Tryd.prog 7 #[.pointer (some ⟨B, 0, none⟩)] w fun e w' => e = .returned (.pointer (some ⟨w.heap.size, 0, none⟩)) ∧ w.grownBy w' none ∧ IsHash w' w.heap.size w.heap.size l := by
  have HH := Lib.hid hH
  obtain ⟨r, hr⟩ := hH
  have hz := z47
  obtain ⟨L, hL⟩ : ∃ L, L = hashV (Sha.blocks l (l.length / 128)) r l.length B := ⟨_, rfl⟩
  have hLl : L.length = 138 := by rw [hL]; exact hashV_length _ _ _ _ hr.len
  have hL1 : L.toArray.all (·.oneCell') = true := by rw [hL]; exact hashV_one _ _ _ _
  have hrow : Blk ((w.alloc (.cells zeroHA 43)).setRow w.heap.size L.toArray) w.heap.size 43 L := (Blk.new w zeroHV 43).row L
  have hb : Blk w B 43 L := by rw [hL]; exact hr.blk
  have c1 := hrow.cell (i := 137) (v := .pointer (some ⟨B, 0, none⟩)) (by rw [hL]; exact hashV_made _ _ _ _ hr.len)
  have f1 := hrow.free 137
  have hend : IsHash (((w.alloc (.cells zeroHA 43)).setRow w.heap.size L.toArray).setCell ⟨w.heap.size, 137, none⟩ (.pointer (some ⟨w.heap.size, 0, none⟩))) w.heap.size w.heap.size l := by
    refine ⟨r, hr.len, hr.byte, hr.waits, ?_⟩
    rw [← hashV_setMade _ _ _ B _ hr.len, ← hL]
    exact hrow.set 137 _
  have hg : w.grownBy (((w.alloc (.cells zeroHA 43)).setRow w.heap.size L.toArray).setCell ⟨w.heap.size, 137, none⟩ (.pointer (some ⟨w.heap.size, 0, none⟩))) none := gb_set_new (gb_setRow (gb_alloc (gb_refl _ _) _) (Nat.le_refl _) _) (Nat.le_refl _) _
  have HA := Lib.hid (And.intro hb (And.intro hLl (And.intro hL1 (And.intro hend hg)))); clear hb hLl hL1 hend hg hL hrow hr
  go_enter Tryd.func7, Tryd.ntmps7
  go_wp2_with fail
  refine (good_yes B l w HH.out).mono ?_
  rintro e w1 ⟨rfl, rfl⟩
  go_wp2_with (first | (refine wpList_load_mid rfl 43 _ rfl B 0 rfl L _ HA.out.1.whole Tryd.underlying43 rfl (by rw [HA.out.2.1]; exact info_size) ?_) | (refine wpList_store_row rfl 43 _ _ rfl w.heap.size L.toArray rfl rfl 43 zeroHV.toArray (Blk.new w zeroHV 43) (by rw [List.size_toArray, HA.out.2.1]; exact info_size) (by rw [List.size_toArray, List.size_toArray, HA.out.2.1]; rfl) HA.out.2.2.1 ?_))
  go_ret
  exact ⟨rfl, HA.out.2.2.2.2, HA.out.2.2.2.1⟩

end Go.Proofs.YtpekckanfboalaaDoor
