/- field: bytesOf: the 32 bytes of the number from 0 to p - 1. -/
import Derived.Test.YtjgfhihngbhljaaDoorFeBytes
namespace Go.Proofs.YtjgfhihngbhljaaDoor
open Go.RowKit

theorem least_bd (a : Fe) : (0 ≤ (Fe.leastF a).x0 ∧ (Fe.leastF a).x0 < 2251799813685248) ∧ (0 ≤ (Fe.leastF a).x1 ∧ (Fe.leastF a).x1 < 2251799813685248) ∧ (0 ≤ (Fe.leastF a).x2 ∧ (Fe.leastF a).x2 < 2251799813685248) ∧
    (0 ≤ (Fe.leastF a).x3 ∧ (Fe.leastF a).x3 < 2251799813685248) ∧ (0 ≤ (Fe.leastF a).x4 ∧ (Fe.leastF a).x4 < 2251799813685248) := by
  unfold Fe.leastF
  refine ⟨⟨?_, ?_⟩, ⟨?_, ?_⟩, ⟨?_, ?_⟩, ⟨?_, ?_⟩, ?_, ?_⟩ <;> dsimp only <;> omega
theorem info_b32 : (Tryd.prog.info? 47).map (·.size) = some 32 := by kernel_rfl
theorem bytesV_one (x : Int) : (bytesV x).toArray.all (·.oneCell') = true := by
  simp [bytesV, bytV, Value.oneCell']
/-- an array of 32 bytes comes back -/
abbrev BytS (w : World) (r : Fe) (w' : World) : Prop := Blk w' w.heap.size 24 [.int .u64 r.x0, .int .u64 r.x1, .int .u64 r.x2, .int .u64 r.x3, .int .u64 r.x4] ∧ w'.cell? ⟨w.heap.size, 0, none⟩ = some (.int .u64 r.x0) ∧ w'.cell? ⟨w.heap.size, 1, none⟩ = some (.int .u64 r.x1) ∧ w'.cell? ⟨w.heap.size, 2, none⟩ = some (.int .u64 r.x2) ∧ w'.cell? ⟨w.heap.size, 3, none⟩ = some (.int .u64 r.x3) ∧ w'.cell? ⟨w.heap.size, 4, none⟩ = some (.int .u64 r.x4)
theorem bytS_mk {w w' : World} {r : Fe} (h : Blk w' w.heap.size 24 [.int .u64 r.x0, .int .u64 r.x1, .int .u64 r.x2, .int .u64 r.x3, .int .u64 r.x4]) : BytS w r w' := ⟨h, h.cell (i := 0) rfl, h.cell (i := 1) rfl, h.cell (i := 2) rfl, h.cell (i := 3) rfl, h.cell (i := 4) rfl⟩
theorem bytS_keep {w w1 w2 : World} {r : Fe} {B : Nat} (hg : w1.grownBy w2 (some B)) (hne : w.heap.size ≠ B) (h : BytS w r w1) : BytS w r w2 := bytS_mk (h.1.grown hg (some_ne hne))
set_option maxRecDepth 100000 in
set_option maxHeartbeats 1600000 in
theorem bytesOf_any (a : Fe) (w : World) (ha : a.Ok) :
    Calls Tryd.prog 28 #[.agg #[.int .u64 a.x0, .int .u64 a.x1, .int .u64 a.x2, .int .u64 a.x3, .int .u64 a.x4]] w fun e w' => e = .returned (.agg (bytesV (Fe.m a)).toArray) ∧ w.grownBy w' none := by
  have hg0 : ∀ c0 c1, w.grownBy ((w.alloc c0).alloc c1) none := fun c0 c1 => gb_alloc (gb_alloc (gb_refl _ _) _) _
  go_enter Tryd.func28, Tryd.ntmps28
  go_wp2_with (go_at_call 45; refine (least_any a _ ha).mono ?_; rintro e w1 ⟨r, hr, rfl, hg1⟩; have hg2 := gb_trans (hg0 _ _) hg1; have hA1 := Blk.grown (Blk.alloc (Blk.new w [.int .u64 a.x0, .int .u64 a.x1, .int .u64 a.x2, .int .u64 a.x3, .int .u64 a.x4] 24) _) hg1 (by simp); have z0 := hA1.cell (i := 0) rfl; have z1 := hA1.cell (i := 1) rfl; have z2 := hA1.cell (i := 2) rfl; have z3 := hA1.cell (i := 3) rfl; have z4 := hA1.cell (i := 4) rfl; have y0 := hA1.free 0; have y1 := hA1.free 1; have y2 := hA1.free 2; have y3 := hA1.free 3; have y4 := hA1.free 4)
  have hlt1 : w.heap.size + 1 < w1.heap.size := by have := hg1.size; simp at this; omega
  have hA2 : Blk ((((((w1.setCell ⟨w.heap.size, 0, none⟩ (.int .u64 r.x0)).setCell ⟨w.heap.size, 1, none⟩ (.int .u64 r.x1)).setCell ⟨w.heap.size, 2, none⟩ (.int .u64 r.x2)).setCell ⟨w.heap.size, 3, none⟩ (.int .u64 r.x3)).setCell ⟨w.heap.size, 4, none⟩ (.int .u64 r.x4)).alloc (.cells #[.int .u8 0, .int .u8 0, .int .u8 0, .int .u8 0, .int .u8 0, .int .u8 0, .int .u8 0, .int .u8 0, .int .u8 0, .int .u8 0, .int .u8 0, .int .u8 0, .int .u8 0, .int .u8 0, .int .u8 0, .int .u8 0, .int .u8 0, .int .u8 0, .int .u8 0, .int .u8 0, .int .u8 0, .int .u8 0, .int .u8 0, .int .u8 0, .int .u8 0, .int .u8 0, .int .u8 0, .int .u8 0, .int .u8 0, .int .u8 0, .int .u8 0, .int .u8 0] 47)) w.heap.size 24 [.int .u64 r.x0, .int .u64 r.x1, .int .u64 r.x2, .int .u64 r.x3, .int .u64 r.x4] := Blk.alloc (Room5.set5 ⟨_, _, _, _, _, hA1⟩ _ _ _ _ _) _
  have hC2 : Blk ((((((w1.setCell ⟨w.heap.size, 0, none⟩ (.int .u64 r.x0)).setCell ⟨w.heap.size, 1, none⟩ (.int .u64 r.x1)).setCell ⟨w.heap.size, 2, none⟩ (.int .u64 r.x2)).setCell ⟨w.heap.size, 3, none⟩ (.int .u64 r.x3)).setCell ⟨w.heap.size, 4, none⟩ (.int .u64 r.x4)).alloc (.cells #[.int .u8 0, .int .u8 0, .int .u8 0, .int .u8 0, .int .u8 0, .int .u8 0, .int .u8 0, .int .u8 0, .int .u8 0, .int .u8 0, .int .u8 0, .int .u8 0, .int .u8 0, .int .u8 0, .int .u8 0, .int .u8 0, .int .u8 0, .int .u8 0, .int .u8 0, .int .u8 0, .int .u8 0, .int .u8 0, .int .u8 0, .int .u8 0, .int .u8 0, .int .u8 0, .int .u8 0, .int .u8 0, .int .u8 0, .int .u8 0, .int .u8 0, .int .u8 0] 47)) w1.heap.size 47 zeros32 := Blk.newAt _ zeros32 _ (by simp)
  have hR2 : Blk ((((((w1.setCell ⟨w.heap.size, 0, none⟩ (.int .u64 r.x0)).setCell ⟨w.heap.size, 1, none⟩ (.int .u64 r.x1)).setCell ⟨w.heap.size, 2, none⟩ (.int .u64 r.x2)).setCell ⟨w.heap.size, 3, none⟩ (.int .u64 r.x3)).setCell ⟨w.heap.size, 4, none⟩ (.int .u64 r.x4)).alloc (.cells #[.int .u8 0, .int .u8 0, .int .u8 0, .int .u8 0, .int .u8 0, .int .u8 0, .int .u8 0, .int .u8 0, .int .u8 0, .int .u8 0, .int .u8 0, .int .u8 0, .int .u8 0, .int .u8 0, .int .u8 0, .int .u8 0, .int .u8 0, .int .u8 0, .int .u8 0, .int .u8 0, .int .u8 0, .int .u8 0, .int .u8 0, .int .u8 0, .int .u8 0, .int .u8 0, .int .u8 0, .int .u8 0, .int .u8 0, .int .u8 0, .int .u8 0, .int .u8 0] 47)) (w.heap.size + 1) 47 zeros32 := Blk.alloc ((((((Blk.grown (Blk.newAt (w.alloc _) zeros32 _ (by simp)) hg1 (by simp)).other (by simp) _).other (by simp) _).other (by simp) _).other (by simp) _).other (by simp) _) _
  have hg3 : w.grownBy ((((((w1.setCell ⟨w.heap.size, 0, none⟩ (.int .u64 r.x0)).setCell ⟨w.heap.size, 1, none⟩ (.int .u64 r.x1)).setCell ⟨w.heap.size, 2, none⟩ (.int .u64 r.x2)).setCell ⟨w.heap.size, 3, none⟩ (.int .u64 r.x3)).setCell ⟨w.heap.size, 4, none⟩ (.int .u64 r.x4)).alloc (.cells #[.int .u8 0, .int .u8 0, .int .u8 0, .int .u8 0, .int .u8 0, .int .u8 0, .int .u8 0, .int .u8 0, .int .u8 0, .int .u8 0, .int .u8 0, .int .u8 0, .int .u8 0, .int .u8 0, .int .u8 0, .int .u8 0, .int .u8 0, .int .u8 0, .int .u8 0, .int .u8 0, .int .u8 0, .int .u8 0, .int .u8 0, .int .u8 0, .int .u8 0, .int .u8 0, .int .u8 0, .int .u8 0, .int .u8 0, .int .u8 0, .int .u8 0, .int .u8 0] 47)) none := gb_alloc (gb_set5 hg2 (Nat.le_refl _) _ _ _ _ _) _
  revert hA2 hC2 hR2 hg3
  clear hA1 z0 z1 z2 z3 z4 y0 y1 y2 y3 y4
  generalize ((((((w1.setCell ⟨w.heap.size, 0, none⟩ (.int .u64 r.x0)).setCell ⟨w.heap.size, 1, none⟩ (.int .u64 r.x1)).setCell ⟨w.heap.size, 2, none⟩ (.int .u64 r.x2)).setCell ⟨w.heap.size, 3, none⟩ (.int .u64 r.x3)).setCell ⟨w.heap.size, 4, none⟩ (.int .u64 r.x4)).alloc (.cells #[.int .u8 0, .int .u8 0, .int .u8 0, .int .u8 0, .int .u8 0, .int .u8 0, .int .u8 0, .int .u8 0, .int .u8 0, .int .u8 0, .int .u8 0, .int .u8 0, .int .u8 0, .int .u8 0, .int .u8 0, .int .u8 0, .int .u8 0, .int .u8 0, .int .u8 0, .int .u8 0, .int .u8 0, .int .u8 0, .int .u8 0, .int .u8 0, .int .u8 0, .int .u8 0, .int .u8 0, .int .u8 0, .int .u8 0, .int .u8 0, .int .u8 0, .int .u8 0] 47)) = W2
  obtain ⟨C, hC⟩ : ∃ C, C = w1.heap.size := ⟨_, rfl⟩
  rw [← hC] at hlt1
  rw [← hC]
  clear hg1 hg2 hC
  intro hA2 hC2 hR2 hg3
  obtain ⟨⟨p00, p01⟩, ⟨p10, p11⟩, ⟨p20, p21⟩, ⟨p30, p31⟩, p40, p41⟩ := least_bd a
  have hwds := least_words a
  rw [← hr.out] at p00 p01 p10 p11 p20 p21 p30 p31 p40 p41 hwds
  have HW := Lib.hid hwds; clear hwds
  have hneC : w.heap.size ≠ C := by omega
  have hneR : w.heap.size + 1 ≠ C := by omega
  have hS0 : BytS w r W2.drew := bytS_mk hA2.drew
  have K0 := Lib.hid (or_lem r.x0 r.x1 51 2251799813685248 8192 (by decide) (by decide) p00 p01 (by decide))
  have K1 := Lib.hid (or_lem (r.x1 / 8192) r.x2 38 274877906944 67108864 (by decide) (by decide) (by omega) (by omega) (by decide))
  have K2 := Lib.hid (or_lem (r.x2 / 67108864) r.x3 25 33554432 549755813888 (by decide) (by decide) (by omega) (by omega) (by decide))
  have K3 := Lib.hid (or_lem (r.x3 / 549755813888) r.x4 12 4096 4503599627370496 (by decide) (by decide) (by omega) (by omega) (by decide))
  go_region_held3 (fun w' => Blk w' w.heap.size 24 [.int .u64 r.x0, .int .u64 r.x1, .int .u64 r.x2, .int .u64 r.x3, .int .u64 r.x4] ∧ w'.cell? ⟨w.heap.size, 0, none⟩ = some (.int .u64 r.x0) ∧ w'.cell? ⟨w.heap.size, 1, none⟩ = some (.int .u64 r.x1) ∧ w'.cell? ⟨w.heap.size, 2, none⟩ = some (.int .u64 r.x2) ∧ w'.cell? ⟨w.heap.size, 3, none⟩ = some (.int .u64 r.x3) ∧ w'.cell? ⟨w.heap.size, 4, none⟩ = some (.int .u64 r.x4))
    (first | (with_reducible exact hS0) | (with_reducible exact bytS_keep (by assumption) hneC (by assumption)))
    (first | (go_simp; go_at_call 46; refine (putWord_any C 0 32 32 47 _ _ _ (by decide) (by decide) hC2.drew).mono ?_; rintro e v1 ⟨rfl, ge1, hd1⟩))
  rw [K0.out, HW.out.1] at hd1
  have hA3 := (hA2.drew).grown ge1 (some_ne hneC)
  have hR3 := (hR2.drew).grown ge1 (some_ne hneR)
  have hg4 := gb_then (gb_drew hg3) ge1 (by omega)
  have hS1 : BytS w r v1.drew := bytS_mk hA3.drew
  clear ge1 hS0 hA2 hR2 hg3 hC2
  go_wp2
  go_region_held3 (fun w' => Blk w' w.heap.size 24 [.int .u64 r.x0, .int .u64 r.x1, .int .u64 r.x2, .int .u64 r.x3, .int .u64 r.x4] ∧ w'.cell? ⟨w.heap.size, 0, none⟩ = some (.int .u64 r.x0) ∧ w'.cell? ⟨w.heap.size, 1, none⟩ = some (.int .u64 r.x1) ∧ w'.cell? ⟨w.heap.size, 2, none⟩ = some (.int .u64 r.x2) ∧ w'.cell? ⟨w.heap.size, 3, none⟩ = some (.int .u64 r.x3) ∧ w'.cell? ⟨w.heap.size, 4, none⟩ = some (.int .u64 r.x4))
    (first | (with_reducible exact hS1) | (with_reducible exact bytS_keep (by assumption) hneC (by assumption)))
    (first | (go_simp; go_at_call 46; refine (putWord_any C 8 24 24 47 _ _ _ (by decide) (by simp only [putN_length]; decide) hd1.drew).mono ?_; rintro e v2 ⟨rfl, ge2, hd2⟩))
  rw [K1.out, HW.out.2.1] at hd2
  have hA4 := (hA3.drew).grown ge2 (some_ne hneC)
  have hR4 := (hR3.drew).grown ge2 (some_ne hneR)
  have hg5 := gb_then (gb_drew hg4) ge2 (by omega)
  have hS2 : BytS w r v2.drew := bytS_mk hA4.drew
  clear ge2 hS1 hA3 hR3 hg4 hd1
  go_wp2
  go_region_held3 (fun w' => Blk w' w.heap.size 24 [.int .u64 r.x0, .int .u64 r.x1, .int .u64 r.x2, .int .u64 r.x3, .int .u64 r.x4] ∧ w'.cell? ⟨w.heap.size, 0, none⟩ = some (.int .u64 r.x0) ∧ w'.cell? ⟨w.heap.size, 1, none⟩ = some (.int .u64 r.x1) ∧ w'.cell? ⟨w.heap.size, 2, none⟩ = some (.int .u64 r.x2) ∧ w'.cell? ⟨w.heap.size, 3, none⟩ = some (.int .u64 r.x3) ∧ w'.cell? ⟨w.heap.size, 4, none⟩ = some (.int .u64 r.x4))
    (first | (with_reducible exact hS2) | (with_reducible exact bytS_keep (by assumption) hneC (by assumption)))
    (first | (go_simp; go_at_call 46; refine (putWord_any C 16 16 16 47 _ _ _ (by decide) (by simp only [putN_length]; decide) hd2.drew).mono ?_; rintro e v3 ⟨rfl, ge3, hd3⟩))
  rw [K2.out, HW.out.2.2.1] at hd3
  have hA5 := (hA4.drew).grown ge3 (some_ne hneC)
  have hR5 := (hR4.drew).grown ge3 (some_ne hneR)
  have hg6 := gb_then (gb_drew hg5) ge3 (by omega)
  have hS3 : BytS w r v3.drew := bytS_mk hA5.drew
  clear ge3 hS2 hA4 hR4 hg5 hd2
  go_wp2
  go_region_held3 (fun w' => Blk w' w.heap.size 24 [.int .u64 r.x0, .int .u64 r.x1, .int .u64 r.x2, .int .u64 r.x3, .int .u64 r.x4] ∧ w'.cell? ⟨w.heap.size, 0, none⟩ = some (.int .u64 r.x0) ∧ w'.cell? ⟨w.heap.size, 1, none⟩ = some (.int .u64 r.x1) ∧ w'.cell? ⟨w.heap.size, 2, none⟩ = some (.int .u64 r.x2) ∧ w'.cell? ⟨w.heap.size, 3, none⟩ = some (.int .u64 r.x3) ∧ w'.cell? ⟨w.heap.size, 4, none⟩ = some (.int .u64 r.x4))
    (first | (with_reducible exact hS3) | (with_reducible exact bytS_keep (by assumption) hneC (by assumption)))
    (first | (go_simp; go_at_call 46; refine (putWord_any C 24 8 8 47 _ _ _ (by decide) (by simp only [putN_length]; decide) hd3.drew).mono ?_; rintro e v4 ⟨rfl, ge4, hd4⟩))
  rw [K3.out, HW.out.2.2.2, bytes_laid] at hd4
  have hR6 := (hR5.drew).grown ge4 (some_ne hneR)
  have hg7 := gb_then (gb_drew hg6) ge4 (by omega)
  clear ge4 hS3 hA5 hR5 hg6 hd3 K0 K1 K2 K3
  obtain ⟨X, hX⟩ : ∃ X, X = bytesV (Fe.m a) := ⟨_, rfl⟩
  rw [← hX] at hd4
  have hXl : X.length = 32 := by rw [hX]; rfl
  have hX1 : X.toArray.all (·.oneCell') = true := by rw [hX]; exact bytesV_one _
  have HX := Lib.hid (And.intro hX (And.intro hXl hX1)); clear hX hXl hX1
  have HM := Lib.hid (And.intro hd4 hR6); clear hd4 hR6
  go_wp2_with (first
    | (refine wpList_load_row rfl 47 (.tmp 3) rfl C rfl 47 X.toArray (0, 0) _ HM.out.1 Tryd.underlying47 rfl (by rw [List.size_toArray, HX.out.2.1]; exact info_b32) ?_)
    | (refine wpList_store_row rfl 47 (.tmp 2) (.tmp 41) rfl (w.heap.size + 1) X.toArray rfl rfl 47 zeros32.toArray HM.out.2 (by rw [List.size_toArray, HX.out.2.1]; exact info_b32) (by rw [List.size_toArray, List.size_toArray, HX.out.2.1]; rfl) HX.out.2.2 ?_))
  refine bodyPost_ret (v := .agg X.toArray) ?_ rfl ⟨by rw [HX.out.1], gb_setRow hg7 (by omega) _⟩
  exact results_cell_row Tryd.results28 _ _ (w.heap.size + 1) 47 X.toArray (0, 0) _ rfl (HM.out.2.row X) Tryd.underlying47 rfl (by rw [List.size_toArray, HX.out.2.1]; exact info_b32)
end Go.Proofs.YtjgfhihngbhljaaDoor
