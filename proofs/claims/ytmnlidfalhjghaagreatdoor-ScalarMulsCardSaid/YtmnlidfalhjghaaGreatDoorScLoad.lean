/- scalar: bytes into a wide one. -/
import Derived.Test.YtmnlidfalhjghaaGreatDoorScFill
namespace Go.Proofs.YtmnlidfalhjghaaGreatDoor
open Go.RowKit Ow
set_option maxHeartbeats 1600000 in
theorem load_any (R len cap B : Nat) (T : TypeId) (Y tl : List Value) (a : Option Addr) (l : List Nat) (w : World) (hl : l.length = len) (hm : len ≤ 64) (hY : Y.length = 8) (hP : BytesAt w B a cap l) (hB : B ≤ R) (hb : Blk w R T (Y ++ tl)) :
    Calls Tryz.prog 24 #[.pointer (some ⟨R, 0, none⟩), .slice a len cap] w fun e w' => e = .returned (.tuple #[]) ∧ w.grownBy w' (some R) ∧ Blk w' R T (wds (num l) 8 ++ tl) := by
  have HP := Lib.hid hP; clear hP
  have hlen := Lib.hid hl; clear hl
  have HB := Lib.hid hb; clear hb
  match Y, hY with
  | [y0, y1, y2, y3, y4, y5, y6, y7], _ =>
    have c0 := HB.out.cell (i := 0) rfl
    have c1 := HB.out.cell (i := 1) rfl
    have c2 := HB.out.cell (i := 2) rfl
    have c3 := HB.out.cell (i := 3) rfl
    have c4 := HB.out.cell (i := 4) rfl
    have c5 := HB.out.cell (i := 5) rfl
    have c6 := HB.out.cell (i := 6) rfl
    have c7 := HB.out.cell (i := 7) rfl
    have f0 := HB.out.free 0
    have f1 := HB.out.free 1
    have f2 := HB.out.free 2
    have f3 := HB.out.free 3
    have f4 := HB.out.free 4
    have f5 := HB.out.free 5
    have f6 := HB.out.free 6
    have f7 := HB.out.free 7
    go_enter Tryz.func24, Tryz.ntmps24
    go_wp2_with fail
    have hb1 := (((((((HB.out.set 0 (wV 0 0)).set 1 (wV 0 1)).set 2 (wV 0 2)).set 3 (wV 0 3)).set 4 (wV 0 4)).set 5 (wV 0 5)).set 6 (wV 0 6)).set 7 (wV 0 7)
    have hg1 := gb_set (gb_set (gb_set (gb_set (gb_set (gb_set (gb_set (gb_set (gb_refl w (some R)) 0 (wV 0 0)) 1 (wV 0 1)) 2 (wV 0 2)) 3 (wV 0 3)) 4 (wV 0 4)) 5 (wV 0 5)) 6 (wV 0 6)) 7 (wV 0 7)
    have hb2 : Blk _ R T (wds 0 8 ++ tl) := hb1
    simp only [wV0] at hb2 hg1
    clear hb1 HB c0 c1 c2 c3 c4 c5 c6 c7 f0 f1 f2 f3 f4 f5 f6 f7
    have HB := Lib.hid hb2; clear hb2
    refine (fill_any R 8 len cap B T tl a l _ hlen.out hm (by omega) (HP.out.kept hg1 (fun r e => by cases e; exact hB)) hB HB.out).mono ?_
    rintro e w2 ⟨rfl, hg2, hb2⟩
    have HG := Lib.hid (gb_trans hg1 hg2); clear hg1 hg2
    have HB2 := Lib.hid hb2; clear hb2
    go_wp2
    go_end0
    exact ⟨rfl, HG.out, HB2.out⟩
end Go.Proofs.YtmnlidfalhjghaaGreatDoor
