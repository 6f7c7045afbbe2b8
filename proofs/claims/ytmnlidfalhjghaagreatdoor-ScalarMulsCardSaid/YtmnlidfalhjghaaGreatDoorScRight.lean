/- scalar: Right. -/
import Derived.Test.YtmnlidfalhjghaaGreatDoorScOut
import Derived.Test.YtmnlidfalhjghaaGreatDoorScLoad
import Derived.Test.YtmnlidfalhjghaaGreatDoorScIs
namespace Go.Proofs.YtmnlidfalhjghaaGreatDoor
open Go.RowKit Ow
set_option maxRecDepth 100000 in
set_option maxHeartbeats 1600000 in
theorem sright_any (cap B : Nat) (a : Option Addr) (l : List Nat) (w : World) (hl : l.length = 32) (hP : BytesAt w B a cap l) (hT : OTab w) :
    Calls Tryz.prog 12 #[.slice a 32 cap] w fun e w' => e = .returned (.bool (decide (num l < Sc.L))) ∧ w.grownBy w' none := by
  have hN := num_top l hP.byte (by omega)
  have h256 := num_256 l hP.byte (by omega)
  have hB := hP.lim
  have HP := Lib.hid hP; clear hP
  have HT := Lib.hid hT; clear hT
  have HL := Lib.hid hl; clear hl
  have hb := Blk.new w zeros12 46
  have hg := gb_alloc (gb_refl w none) (.cells zeros12.toArray 46)
  have hO : 0 < w.heap.size := HT.out.lt
  have hb0 : Blk (w.alloc (.cells zeros12.toArray 46)) w.heap.size 46 ([.int .u64 0, .int .u64 0, .int .u64 0, .int .u64 0, .int .u64 0, .int .u64 0, .int .u64 0, .int .u64 0] ++ [.int .u64 0, .int .u64 0, .int .u64 0, .int .u64 0]) := hb
  have HB := Lib.hid hb0; clear hb hb0
  have HG := Lib.hid hg; clear hg
  have HN := Lib.hid hN; clear hN
  have H256 := Lib.hid h256; clear h256
  go_enter Tryz.func12, Tryz.ntmps12
  go_wp2_with fail
  refine (load_any w.heap.size 32 cap B _ _ _ a l _ HL.out (by omega) rfl (HP.out.stay HG.out) hB HB.out).mono ?_
  rintro e w1 ⟨rfl, hg1, hb1⟩
  have HG1 := Lib.hid (gb_then HG.out hg1 (Nat.le_refl _)); clear hg1
  have HB1 := Lib.hid hb1; clear hb1
  go_wp2_with fail
  refine (modulo_any w.heap.size (num l) _ _ _ _ _ w1 HN.out (HT.out.kept HG1.out (fun r e => by cases e)) hO HB1.out).mono ?_
  rintro e w2 ⟨rfl, hg2, hb2⟩
  have HG2 := Lib.hid (gb_then HG1.out hg2 (Nat.le_refl _)); clear hg2
  have HB2 := Lib.hid hb2; clear hb2
  go_wp2_with fail
  refine (is_any w.heap.size (num l) (num l % Sc.L) _ _ w2 H256.out (Sc.lt256 _ (Sc.mod_lt _)) HB2.out).mono ?_
  rintro e w3 ⟨rfl, hg3⟩
  have HG3 := Lib.hid (gb_trans HG2.out hg3); clear hg3
  go_wp2
  go_ret
  refine ⟨?_, HG3.out⟩
  have e : decide (num l = num l % Sc.L) = decide (num l < Sc.L) := by
    rw [Bool.eq_iff_iff, decide_eq_true_iff, decide_eq_true_iff]
    constructor
    · intro h; rw [h]; exact Sc.mod_lt _
    · intro h; rw [Nat.mod_eq_of_lt h]
  rw [← e]; rfl
end Go.Proofs.YtmnlidfalhjghaaGreatDoor
