/- scalar: Reduce. -/
import Derived.Test.YtmnlidfalhjghaaGreatDoorScOut
import Derived.Test.YtmnlidfalhjghaaGreatDoorScLoad
namespace Go.Proofs.YtmnlidfalhjghaaGreatDoor
open Go.RowKit Ow
set_option maxRecDepth 100000 in
set_option maxHeartbeats 1600000 in
theorem reduce_any (len cap B : Nat) (a : Option Addr) (l : List Nat) (w : World) (hl : l.length = len) (hm : len ≤ 64) (hP : BytesAt w B a cap l) (hT : OTab w) :
    Calls Tryz.prog 8 #[.slice a len cap] w (OutB (scB (num l)) w) := by
  have hN := num_top l hP.byte (by omega)
  have hB := hP.lim
  have HP := Lib.hid hP; clear hP
  have HT := Lib.hid hT; clear hT
  have HL := Lib.hid hl; clear hl
  have hb := Blk.new w zeros12 46
  have hg := gb_alloc (gb_refl w none) (.cells zeros12.toArray 46)
  have hO : 0 < w.heap.size := HT.out.lt
  have hb0 : Blk (w.alloc (.cells zeros12.toArray 46)) w.heap.size 46 ([.int .u64 0, .int .u64 0, .int .u64 0, .int .u64 0, .int .u64 0, .int .u64 0, .int .u64 0, .int .u64 0] ++ [.int .u64 0, .int .u64 0, .int .u64 0, .int .u64 0]) := hb
  have HB := Lib.hid hb0; clear hb hb0
  have HG := Lib.hid hg; clear hg
  have h64 : ¬ 64 < len := by omega
  go_enter Tryz.func8, Tryz.ntmps8
  go_wp2_with fail
  refine (load_any w.heap.size len cap B _ _ _ a l _ HL.out hm rfl (HP.out.stay HG.out) hB HB.out).mono ?_
  rintro e w1 ⟨rfl, hg1, hb1⟩
  have HG1 := Lib.hid (gb_then HG.out hg1 (Nat.le_refl _)); clear hg1
  have HB1 := Lib.hid hb1; clear hb1
  go_wp2_with fail
  refine (modulo_any w.heap.size (num l) _ _ _ _ _ w1 hN (HT.out.kept HG1.out (fun r e => by cases e)) hO HB1.out).mono ?_
  rintro e w2 ⟨rfl, hg2, _⟩
  have HG2 := Lib.hid (gb_then HG1.out hg2 (Nat.le_refl _)); clear hg2
  go_wp2_with fail
  refine (nbytes_any (num l % Sc.L) w2).mono ?_
  rintro e w3 ⟨g, rfl, hg3, ho3⟩
  have HO := Lib.hid (And.intro hg3 ho3); clear hg3 ho3
  go_wp2
  go_ret
  exact out_of HG2.out HO.out.1 HO.out.2 _ rfl
end Go.Proofs.YtmnlidfalhjghaaGreatDoor
