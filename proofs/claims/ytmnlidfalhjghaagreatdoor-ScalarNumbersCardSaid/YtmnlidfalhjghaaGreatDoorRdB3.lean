/- texts merged, part 3: XFtNil XFtBag XFtApart XFtApart2 XScRedLaw XScReds XScMuls XOpen XScLaid -/
import Derived.Test.YtmnlidfalhjghaaGreatDoorRdB2
import Derived.Test.YtmnlidfalhjghaaGreatDoorChecked
import Derived.Test.YtmnlidfalhjghaaGreatDoorRdB1
import Derived.ProofKit
import Derived.OpenShut
import Derived.ShutString
import Derived.ChangeOld
import Derived.Deep.DeepHandedRow
import Derived.Lib.LaidTab
import Derived.SizedLaws
import Derived.Test.YtmnlidfalhjghaaGreatDoorCards
import Derived.Test.YtmnlidfalhjghaaGreatDoorTie
/- The kit's flat..: of no list, true. (gen_nils.py) -/
namespace Go.Proofs.YtmnlidfalhjghaaGreatDoor
open Go.RowKit Ow
namespace Ft

theorem make_none (st e : TypeId) (hu : Tryz.prog.underlying st = some (.slice e)) (hi : (Tryz.prog.info? e).map (fun i => i.zero.isSome) = some true) (w : World) : ∃ w', (Instr.makeSlice st (.int .i64 0) (.int .i64 0)).run Tryz.prog w = .ok (.slice (some ⟨w.heap.size, 0, none⟩) 0 0) w' ∧ w.grownBy w' none := by
  obtain ⟨i, hi1, hi2⟩ : ∃ i, Tryz.prog.info? e = some i ∧ i.zero.isSome = true := by
    cases h : Tryz.prog.info? e with
    | none => rw [h] at hi; cases hi
    | some i => rw [h] at hi; exact ⟨i, rfl, by simpa using hi⟩
  obtain ⟨z, hz⟩ := Option.isSome_iff_exists.1 hi2
  have h2 := run_make (P := Tryz.prog) w st e i z hu hi1 hz .i64 .i64 0 0 (by omega) (by omega) (by omega) (by omega)
  exact ⟨_, h2, gb_alloc (gb_refl _ _) _⟩

set_option maxRecDepth 100000 in
set_option maxHeartbeats 4000000 in
theorem flatLimbs_nil (w : World) : Calls Tryz.prog 44 #[.slice none 0 0] w fun e w' => e = .returned (.bool true) ∧ w.grownBy w' none := by
  go_enter Tryz.func44, Tryz.ntmps44
  go_wp2
  go_loopw [3] (fun i wr => i = .int .i64 0 ∧ w.grownBy wr none) (fun _ _ => 0)
  case atStart => exact ⟨rfl, gb_refl _ _⟩
  obtain ⟨rfl, hg⟩ := hrel
  obtain ⟨w2, hmk, hg2⟩ := make_none 55 123 Tryz.underlying55 (by kernel_rfl) wr
  have hg3 := gb_trans hg hg2
  go_wp2
  go_loopw [6] (fun i wr => i = .int .i64 0 ∧ w.grownBy wr none) (fun _ _ => 0)
  case atStart => exact ⟨rfl, hg3⟩
  obtain ⟨rfl, hg⟩ := hrel
  go_wp2
  go_loopw [9] (fun i wr => i = .int .i64 0 ∧ w.grownBy wr none) (fun _ _ => 0)
  case atStart => exact ⟨rfl, hg⟩
  obtain ⟨rfl, hg⟩ := hrel
  go_wp2
  go_loopw [11] (fun i wr => i = .int .i64 0 ∧ w.grownBy wr none) (fun _ _ => 0)
  case atStart => exact ⟨rfl, hg⟩
  obtain ⟨rfl, hg⟩ := hrel
  go_wp2
  go_loopw [14] (fun i wr => i = .int .i64 0 ∧ w.grownBy wr none) (fun _ _ => 0)
  case atStart => exact ⟨rfl, hg⟩
  obtain ⟨rfl, hg⟩ := hrel
  go_wp2
  go_ret
  exact ⟨rfl, hg⟩
set_option maxRecDepth 100000 in
set_option maxHeartbeats 4000000 in
theorem flatWords_nil (w : World) : Calls Tryz.prog 45 #[.slice none 0 0] w fun e w' => e = .returned (.bool true) ∧ w.grownBy w' none := by
  go_enter Tryz.func45, Tryz.ntmps45
  go_wp2
  go_loopw [3] (fun i wr => i = .int .i64 0 ∧ w.grownBy wr none) (fun _ _ => 0)
  case atStart => exact ⟨rfl, gb_refl _ _⟩
  obtain ⟨rfl, hg⟩ := hrel
  obtain ⟨w2, hmk, hg2⟩ := make_none 56 87 Tryz.underlying56 (by kernel_rfl) wr
  have hg3 := gb_trans hg hg2
  go_wp2
  go_loopw [6] (fun i wr => i = .int .i64 0 ∧ w.grownBy wr none) (fun _ _ => 0)
  case atStart => exact ⟨rfl, hg3⟩
  obtain ⟨rfl, hg⟩ := hrel
  go_wp2
  go_loopw [9] (fun i wr => i = .int .i64 0 ∧ w.grownBy wr none) (fun _ _ => 0)
  case atStart => exact ⟨rfl, hg⟩
  obtain ⟨rfl, hg⟩ := hrel
  go_wp2
  go_loopw [11] (fun i wr => i = .int .i64 0 ∧ w.grownBy wr none) (fun _ _ => 0)
  case atStart => exact ⟨rfl, hg⟩
  obtain ⟨rfl, hg⟩ := hrel
  go_wp2
  go_loopw [14] (fun i wr => i = .int .i64 0 ∧ w.grownBy wr none) (fun _ _ => 0)
  case atStart => exact ⟨rfl, hg⟩
  obtain ⟨rfl, hg⟩ := hrel
  go_wp2
  go_ret
  exact ⟨rfl, hg⟩
set_option maxRecDepth 100000 in
set_option maxHeartbeats 4000000 in
theorem flatInts_nil (w : World) : Calls Tryz.prog 46 #[.slice none 0 0] w fun e w' => e = .returned (.bool true) ∧ w.grownBy w' none := by
  go_enter Tryz.func46, Tryz.ntmps46
  go_wp2
  go_loopw [3] (fun i wr => i = .int .i64 0 ∧ w.grownBy wr none) (fun _ _ => 0)
  case atStart => exact ⟨rfl, gb_refl _ _⟩
  obtain ⟨rfl, hg⟩ := hrel
  obtain ⟨w2, hmk, hg2⟩ := make_none 57 83 Tryz.underlying57 (by kernel_rfl) wr
  have hg3 := gb_trans hg hg2
  go_wp2
  go_loopw [6] (fun i wr => i = .int .i64 0 ∧ w.grownBy wr none) (fun _ _ => 0)
  case atStart => exact ⟨rfl, hg3⟩
  obtain ⟨rfl, hg⟩ := hrel
  go_wp2
  go_loopw [9] (fun i wr => i = .int .i64 0 ∧ w.grownBy wr none) (fun _ _ => 0)
  case atStart => exact ⟨rfl, hg⟩
  obtain ⟨rfl, hg⟩ := hrel
  go_wp2
  go_loopw [11] (fun i wr => i = .int .i64 0 ∧ w.grownBy wr none) (fun _ _ => 0)
  case atStart => exact ⟨rfl, hg⟩
  obtain ⟨rfl, hg⟩ := hrel
  go_wp2
  go_loopw [14] (fun i wr => i = .int .i64 0 ∧ w.grownBy wr none) (fun _ _ => 0)
  case atStart => exact ⟨rfl, hg⟩
  obtain ⟨rfl, hg⟩ := hrel
  go_wp2
  go_ret
  exact ⟨rfl, hg⟩
set_option maxRecDepth 100000 in
set_option maxHeartbeats 4000000 in
theorem flatLongs_nil (w : World) : Calls Tryz.prog 47 #[.slice none 0 0] w fun e w' => e = .returned (.bool true) ∧ w.grownBy w' none := by
  go_enter Tryz.func47, Tryz.ntmps47
  go_wp2
  go_loopw [3] (fun i wr => i = .int .i64 0 ∧ w.grownBy wr none) (fun _ _ => 0)
  case atStart => exact ⟨rfl, gb_refl _ _⟩
  obtain ⟨rfl, hg⟩ := hrel
  obtain ⟨w2, hmk, hg2⟩ := make_none 58 125 Tryz.underlying58 (by kernel_rfl) wr
  have hg3 := gb_trans hg hg2
  go_wp2
  go_loopw [6] (fun i wr => i = .int .i64 0 ∧ w.grownBy wr none) (fun _ _ => 0)
  case atStart => exact ⟨rfl, hg3⟩
  obtain ⟨rfl, hg⟩ := hrel
  go_wp2
  go_loopw [9] (fun i wr => i = .int .i64 0 ∧ w.grownBy wr none) (fun _ _ => 0)
  case atStart => exact ⟨rfl, hg⟩
  obtain ⟨rfl, hg⟩ := hrel
  go_wp2
  go_loopw [11] (fun i wr => i = .int .i64 0 ∧ w.grownBy wr none) (fun _ _ => 0)
  case atStart => exact ⟨rfl, hg⟩
  obtain ⟨rfl, hg⟩ := hrel
  go_wp2
  go_loopw [14] (fun i wr => i = .int .i64 0 ∧ w.grownBy wr none) (fun _ _ => 0)
  case atStart => exact ⟨rfl, hg⟩
  obtain ⟨rfl, hg⟩ := hrel
  go_wp2
  go_ret
  exact ⟨rfl, hg⟩
set_option maxRecDepth 100000 in
set_option maxHeartbeats 4000000 in
theorem flatTexts_nil (w : World) : Calls Tryz.prog 48 #[.slice none 0 0] w fun e w' => e = .returned (.bool true) ∧ w.grownBy w' none := by
  go_enter Tryz.func48, Tryz.ntmps48
  go_wp2
  go_loopw [3] (fun i wr => i = .int .i64 0 ∧ w.grownBy wr none) (fun _ _ => 0)
  case atStart => exact ⟨rfl, gb_refl _ _⟩
  obtain ⟨rfl, hg⟩ := hrel
  obtain ⟨w2, hmk, hg2⟩ := make_none 59 126 Tryz.underlying59 (by kernel_rfl) wr
  have hg3 := gb_trans hg hg2
  go_wp2
  go_loopw [6] (fun i wr => i = .int .i64 0 ∧ w.grownBy wr none) (fun _ _ => 0)
  case atStart => exact ⟨rfl, hg3⟩
  obtain ⟨rfl, hg⟩ := hrel
  go_wp2
  go_loopw [9] (fun i wr => i = .int .i64 0 ∧ w.grownBy wr none) (fun _ _ => 0)
  case atStart => exact ⟨rfl, hg⟩
  obtain ⟨rfl, hg⟩ := hrel
  go_wp2
  go_loopw [11] (fun i wr => i = .int .i64 0 ∧ w.grownBy wr none) (fun _ _ => 0)
  case atStart => exact ⟨rfl, hg⟩
  obtain ⟨rfl, hg⟩ := hrel
  go_wp2
  go_loopw [14] (fun i wr => i = .int .i64 0 ∧ w.grownBy wr none) (fun _ _ => 0)
  case atStart => exact ⟨rfl, hg⟩
  obtain ⟨rfl, hg⟩ := hrel
  go_wp2
  go_ret
  exact ⟨rfl, hg⟩
set_option maxRecDepth 100000 in
set_option maxHeartbeats 4000000 in
theorem flatBytes_nil (w : World) : Calls Tryz.prog 49 #[.slice none 0 0] w fun e w' => e = .returned (.bool true) ∧ w.grownBy w' none := by
  go_enter Tryz.func49, Tryz.ntmps49
  go_wp2
  go_loopw [3] (fun i wr => i = .int .i64 0 ∧ w.grownBy wr none) (fun _ _ => 0)
  case atStart => exact ⟨rfl, gb_refl _ _⟩
  obtain ⟨rfl, hg⟩ := hrel
  obtain ⟨w2, hmk, hg2⟩ := make_none 31 22 Tryz.underlying31 (by kernel_rfl) wr
  have hg3 := gb_trans hg hg2
  go_wp2
  go_loopw [6] (fun i wr => i = .int .i64 0 ∧ w.grownBy wr none) (fun _ _ => 0)
  case atStart => exact ⟨rfl, hg3⟩
  obtain ⟨rfl, hg⟩ := hrel
  go_wp2
  go_loopw [9] (fun i wr => i = .int .i64 0 ∧ w.grownBy wr none) (fun _ _ => 0)
  case atStart => exact ⟨rfl, hg⟩
  obtain ⟨rfl, hg⟩ := hrel
  go_wp2
  go_loopw [11] (fun i wr => i = .int .i64 0 ∧ w.grownBy wr none) (fun _ _ => 0)
  case atStart => exact ⟨rfl, hg⟩
  obtain ⟨rfl, hg⟩ := hrel
  go_wp2
  go_loopw [14] (fun i wr => i = .int .i64 0 ∧ w.grownBy wr none) (fun _ _ => 0)
  case atStart => exact ⟨rfl, hg⟩
  obtain ⟨rfl, hg⟩ := hrel
  go_wp2
  go_ret
  exact ⟨rfl, hg⟩
set_option maxRecDepth 100000 in
set_option maxHeartbeats 4000000 in
theorem flatRows_nil (w : World) : Calls Tryz.prog 51 #[.slice none 0 0] w fun e w' => e = .returned (.bool true) ∧ w.grownBy w' none := by
  go_enter Tryz.func51, Tryz.ntmps51
  go_wp2
  go_loopw [3] (fun i wr => i = .int .i64 0 ∧ w.grownBy wr none) (fun _ _ => 0)
  case atStart => exact ⟨rfl, gb_refl _ _⟩
  obtain ⟨rfl, hg⟩ := hrel
  obtain ⟨w2, hmk, hg2⟩ := make_none 60 31 Tryz.underlying60 (by kernel_rfl) wr
  have hg3 := gb_trans hg hg2
  go_wp2
  go_loopw [6] (fun i wr => i = .int .i64 0 ∧ w.grownBy wr none) (fun _ _ => 0)
  case atStart => exact ⟨rfl, hg3⟩
  obtain ⟨rfl, hg⟩ := hrel
  go_wp2
  go_loopw [9] (fun i wr => i = .int .i64 0 ∧ w.grownBy wr none) (fun _ _ => 0)
  case atStart => exact ⟨rfl, hg⟩
  obtain ⟨rfl, hg⟩ := hrel
  go_wp2
  go_loopw [11] (fun i wr => i = .int .i64 0 ∧ w.grownBy wr none) (fun _ _ => 0)
  case atStart => exact ⟨rfl, hg⟩
  obtain ⟨rfl, hg⟩ := hrel
  go_wp2
  go_loopw [14] (fun i wr => i = .int .i64 0 ∧ w.grownBy wr none) (fun _ _ => 0)
  case atStart => exact ⟨rfl, hg⟩
  obtain ⟨rfl, hg⟩ := hrel
  go_wp2
  go_ret
  exact ⟨rfl, hg⟩
set_option maxRecDepth 100000 in
set_option maxHeartbeats 4000000 in
theorem flatDots_nil (w : World) : Calls Tryz.prog 52 #[.slice none 0 0] w fun e w' => e = .returned (.bool true) ∧ w.grownBy w' none := by
  go_enter Tryz.func52, Tryz.ntmps52
  go_wp2
  go_loopw [3] (fun i wr => i = .int .i64 0 ∧ w.grownBy wr none) (fun _ _ => 0)
  case atStart => exact ⟨rfl, gb_refl _ _⟩
  obtain ⟨rfl, hg⟩ := hrel
  obtain ⟨w2, hmk, hg2⟩ := make_none 61 129 Tryz.underlying61 (by kernel_rfl) wr
  have hg3 := gb_trans hg hg2
  go_wp2
  go_loopw [6] (fun i wr => i = .int .i64 0 ∧ w.grownBy wr none) (fun _ _ => 0)
  case atStart => exact ⟨rfl, hg3⟩
  obtain ⟨rfl, hg⟩ := hrel
  go_wp2
  go_loopw [9] (fun i wr => i = .int .i64 0 ∧ w.grownBy wr none) (fun _ _ => 0)
  case atStart => exact ⟨rfl, hg⟩
  obtain ⟨rfl, hg⟩ := hrel
  go_wp2
  go_loopw [11] (fun i wr => i = .int .i64 0 ∧ w.grownBy wr none) (fun _ _ => 0)
  case atStart => exact ⟨rfl, hg⟩
  obtain ⟨rfl, hg⟩ := hrel
  go_wp2
  go_loopw [14] (fun i wr => i = .int .i64 0 ∧ w.grownBy wr none) (fun _ _ => 0)
  case atStart => exact ⟨rfl, hg⟩
  obtain ⟨rfl, hg⟩ := hrel
  go_wp2
  go_ret
  exact ⟨rfl, hg⟩
set_option maxRecDepth 100000 in
set_option maxHeartbeats 4000000 in
theorem flatRecords_nil (w : World) : Calls Tryz.prog 53 #[.slice none 0 0] w fun e w' => e = .returned (.bool true) ∧ w.grownBy w' none := by
  go_enter Tryz.func53, Tryz.ntmps53
  go_wp2
  go_loopw [3] (fun i wr => i = .int .i64 0 ∧ w.grownBy wr none) (fun _ _ => 0)
  case atStart => exact ⟨rfl, gb_refl _ _⟩
  obtain ⟨rfl, hg⟩ := hrel
  obtain ⟨w2, hmk, hg2⟩ := make_none 62 133 Tryz.underlying62 (by kernel_rfl) wr
  have hg3 := gb_trans hg hg2
  go_wp2
  go_loopw [6] (fun i wr => i = .int .i64 0 ∧ w.grownBy wr none) (fun _ _ => 0)
  case atStart => exact ⟨rfl, hg3⟩
  obtain ⟨rfl, hg⟩ := hrel
  go_wp2
  go_loopw [9] (fun i wr => i = .int .i64 0 ∧ w.grownBy wr none) (fun _ _ => 0)
  case atStart => exact ⟨rfl, hg⟩
  obtain ⟨rfl, hg⟩ := hrel
  go_wp2
  go_loopw [11] (fun i wr => i = .int .i64 0 ∧ w.grownBy wr none) (fun _ _ => 0)
  case atStart => exact ⟨rfl, hg⟩
  obtain ⟨rfl, hg⟩ := hrel
  go_wp2
  go_loopw [14] (fun i wr => i = .int .i64 0 ∧ w.grownBy wr none) (fun _ _ => 0)
  case atStart => exact ⟨rfl, hg⟩
  obtain ⟨rfl, hg⟩ := hrel
  go_wp2
  go_ret
  exact ⟨rfl, hg⟩
set_option maxRecDepth 100000 in
set_option maxHeartbeats 4000000 in
theorem flatLeaves_nil (w : World) : Calls Tryz.prog 54 #[.slice none 0 0] w fun e w' => e = .returned (.bool true) ∧ w.grownBy w' none := by
  go_enter Tryz.func54, Tryz.ntmps54
  go_wp2
  go_loopw [3] (fun i wr => i = .int .i64 0 ∧ w.grownBy wr none) (fun _ _ => 0)
  case atStart => exact ⟨rfl, gb_refl _ _⟩
  obtain ⟨rfl, hg⟩ := hrel
  obtain ⟨w2, hmk, hg2⟩ := make_none 63 138 Tryz.underlying63 (by kernel_rfl) wr
  have hg3 := gb_trans hg hg2
  go_wp2
  go_loopw [6] (fun i wr => i = .int .i64 0 ∧ w.grownBy wr none) (fun _ _ => 0)
  case atStart => exact ⟨rfl, hg3⟩
  obtain ⟨rfl, hg⟩ := hrel
  go_wp2
  go_loopw [9] (fun i wr => i = .int .i64 0 ∧ w.grownBy wr none) (fun _ _ => 0)
  case atStart => exact ⟨rfl, hg⟩
  obtain ⟨rfl, hg⟩ := hrel
  go_wp2
  go_loopw [11] (fun i wr => i = .int .i64 0 ∧ w.grownBy wr none) (fun _ _ => 0)
  case atStart => exact ⟨rfl, hg⟩
  obtain ⟨rfl, hg⟩ := hrel
  go_wp2
  go_loopw [14] (fun i wr => i = .int .i64 0 ∧ w.grownBy wr none) (fun _ _ => 0)
  case atStart => exact ⟨rfl, hg⟩
  obtain ⟨rfl, hg⟩ := hrel
  go_wp2
  go_ret
  exact ⟨rfl, hg⟩
set_option maxRecDepth 100000 in
set_option maxHeartbeats 4000000 in
theorem flatGrants_nil (w : World) : Calls Tryz.prog 55 #[.slice none 0 0] w fun e w' => e = .returned (.bool true) ∧ w.grownBy w' none := by
  go_enter Tryz.func55, Tryz.ntmps55
  go_wp2
  go_loopw [3] (fun i wr => i = .int .i64 0 ∧ w.grownBy wr none) (fun _ _ => 0)
  case atStart => exact ⟨rfl, gb_refl _ _⟩
  obtain ⟨rfl, hg⟩ := hrel
  obtain ⟨w2, hmk, hg2⟩ := make_none 64 143 Tryz.underlying64 (by kernel_rfl) wr
  have hg3 := gb_trans hg hg2
  go_wp2
  go_loopw [6] (fun i wr => i = .int .i64 0 ∧ w.grownBy wr none) (fun _ _ => 0)
  case atStart => exact ⟨rfl, hg3⟩
  obtain ⟨rfl, hg⟩ := hrel
  go_wp2
  go_loopw [9] (fun i wr => i = .int .i64 0 ∧ w.grownBy wr none) (fun _ _ => 0)
  case atStart => exact ⟨rfl, hg⟩
  obtain ⟨rfl, hg⟩ := hrel
  go_wp2
  go_loopw [11] (fun i wr => i = .int .i64 0 ∧ w.grownBy wr none) (fun _ _ => 0)
  case atStart => exact ⟨rfl, hg⟩
  obtain ⟨rfl, hg⟩ := hrel
  go_wp2
  go_loopw [14] (fun i wr => i = .int .i64 0 ∧ w.grownBy wr none) (fun _ _ => 0)
  case atStart => exact ⟨rfl, hg⟩
  obtain ⟨rfl, hg⟩ := hrel
  go_wp2
  go_ret
  exact ⟨rfl, hg⟩
set_option maxRecDepth 100000 in
set_option maxHeartbeats 4000000 in
theorem flatNodes_nil (w : World) : Calls Tryz.prog 56 #[.slice none 0 0] w fun e w' => e = .returned (.bool true) ∧ w.grownBy w' none := by
  go_enter Tryz.func56, Tryz.ntmps56
  go_wp2
  go_loopw [3] (fun i wr => i = .int .i64 0 ∧ w.grownBy wr none) (fun _ _ => 0)
  case atStart => exact ⟨rfl, gb_refl _ _⟩
  obtain ⟨rfl, hg⟩ := hrel
  obtain ⟨w2, hmk, hg2⟩ := make_none 65 148 Tryz.underlying65 (by kernel_rfl) wr
  have hg3 := gb_trans hg hg2
  go_wp2
  go_loopw [6] (fun i wr => i = .int .i64 0 ∧ w.grownBy wr none) (fun _ _ => 0)
  case atStart => exact ⟨rfl, hg3⟩
  obtain ⟨rfl, hg⟩ := hrel
  go_wp2
  go_loopw [9] (fun i wr => i = .int .i64 0 ∧ w.grownBy wr none) (fun _ _ => 0)
  case atStart => exact ⟨rfl, hg⟩
  obtain ⟨rfl, hg⟩ := hrel
  go_wp2
  go_loopw [11] (fun i wr => i = .int .i64 0 ∧ w.grownBy wr none) (fun _ _ => 0)
  case atStart => exact ⟨rfl, hg⟩
  obtain ⟨rfl, hg⟩ := hrel
  go_wp2
  go_loopw [14] (fun i wr => i = .int .i64 0 ∧ w.grownBy wr none) (fun _ _ => 0)
  case atStart => exact ⟨rfl, hg⟩
  obtain ⟨rfl, hg⟩ := hrel
  go_wp2
  go_ret
  exact ⟨rfl, hg⟩
set_option maxRecDepth 100000 in
set_option maxHeartbeats 4000000 in
theorem flatStubs_nil (w : World) : Calls Tryz.prog 57 #[.slice none 0 0] w fun e w' => e = .returned (.bool true) ∧ w.grownBy w' none := by
  go_enter Tryz.func57, Tryz.ntmps57
  go_wp2
  go_loopw [3] (fun i wr => i = .int .i64 0 ∧ w.grownBy wr none) (fun _ _ => 0)
  case atStart => exact ⟨rfl, gb_refl _ _⟩
  obtain ⟨rfl, hg⟩ := hrel
  obtain ⟨w2, hmk, hg2⟩ := make_none 66 154 Tryz.underlying66 (by kernel_rfl) wr
  have hg3 := gb_trans hg hg2
  go_wp2
  go_loopw [6] (fun i wr => i = .int .i64 0 ∧ w.grownBy wr none) (fun _ _ => 0)
  case atStart => exact ⟨rfl, hg3⟩
  obtain ⟨rfl, hg⟩ := hrel
  go_wp2
  go_loopw [9] (fun i wr => i = .int .i64 0 ∧ w.grownBy wr none) (fun _ _ => 0)
  case atStart => exact ⟨rfl, hg⟩
  obtain ⟨rfl, hg⟩ := hrel
  go_wp2
  go_loopw [11] (fun i wr => i = .int .i64 0 ∧ w.grownBy wr none) (fun _ _ => 0)
  case atStart => exact ⟨rfl, hg⟩
  obtain ⟨rfl, hg⟩ := hrel
  go_wp2
  go_loopw [14] (fun i wr => i = .int .i64 0 ∧ w.grownBy wr none) (fun _ _ => 0)
  case atStart => exact ⟨rfl, hg⟩
  obtain ⟨rfl, hg⟩ := hrel
  go_wp2
  go_ret
  exact ⟨rfl, hg⟩
set_option maxRecDepth 100000 in
set_option maxHeartbeats 4000000 in
theorem flatProofs_nil (w : World) : Calls Tryz.prog 58 #[.slice none 0 0] w fun e w' => e = .returned (.bool true) ∧ w.grownBy w' none := by
  go_enter Tryz.func58, Tryz.ntmps58
  go_wp2
  go_loopw [3] (fun i wr => i = .int .i64 0 ∧ w.grownBy wr none) (fun _ _ => 0)
  case atStart => exact ⟨rfl, gb_refl _ _⟩
  obtain ⟨rfl, hg⟩ := hrel
  obtain ⟨w2, hmk, hg2⟩ := make_none 67 159 Tryz.underlying67 (by kernel_rfl) wr
  have hg3 := gb_trans hg hg2
  go_wp2
  go_loopw [6] (fun i wr => i = .int .i64 0 ∧ w.grownBy wr none) (fun _ _ => 0)
  case atStart => exact ⟨rfl, hg3⟩
  obtain ⟨rfl, hg⟩ := hrel
  go_wp2
  go_loopw [9] (fun i wr => i = .int .i64 0 ∧ w.grownBy wr none) (fun _ _ => 0)
  case atStart => exact ⟨rfl, hg⟩
  obtain ⟨rfl, hg⟩ := hrel
  go_wp2
  go_loopw [11] (fun i wr => i = .int .i64 0 ∧ w.grownBy wr none) (fun _ _ => 0)
  case atStart => exact ⟨rfl, hg⟩
  obtain ⟨rfl, hg⟩ := hrel
  go_wp2
  go_loopw [14] (fun i wr => i = .int .i64 0 ∧ w.grownBy wr none) (fun _ _ => 0)
  case atStart => exact ⟨rfl, hg⟩
  obtain ⟨rfl, hg⟩ := hrel
  go_wp2
  go_ret
  exact ⟨rfl, hg⟩
set_option maxRecDepth 100000 in
set_option maxHeartbeats 4000000 in
theorem flatRoots_nil (w : World) : Calls Tryz.prog 59 #[.slice none 0 0] w fun e w' => e = .returned (.bool true) ∧ w.grownBy w' none := by
  go_enter Tryz.func59, Tryz.ntmps59
  go_wp2
  go_loopw [3] (fun i wr => i = .int .i64 0 ∧ w.grownBy wr none) (fun _ _ => 0)
  case atStart => exact ⟨rfl, gb_refl _ _⟩
  obtain ⟨rfl, hg⟩ := hrel
  obtain ⟨w2, hmk, hg2⟩ := make_none 68 164 Tryz.underlying68 (by kernel_rfl) wr
  have hg3 := gb_trans hg hg2
  go_wp2
  go_loopw [6] (fun i wr => i = .int .i64 0 ∧ w.grownBy wr none) (fun _ _ => 0)
  case atStart => exact ⟨rfl, hg3⟩
  obtain ⟨rfl, hg⟩ := hrel
  go_wp2
  go_loopw [9] (fun i wr => i = .int .i64 0 ∧ w.grownBy wr none) (fun _ _ => 0)
  case atStart => exact ⟨rfl, hg⟩
  obtain ⟨rfl, hg⟩ := hrel
  go_wp2
  go_loopw [11] (fun i wr => i = .int .i64 0 ∧ w.grownBy wr none) (fun _ _ => 0)
  case atStart => exact ⟨rfl, hg⟩
  obtain ⟨rfl, hg⟩ := hrel
  go_wp2
  go_loopw [14] (fun i wr => i = .int .i64 0 ∧ w.grownBy wr none) (fun _ _ => 0)
  case atStart => exact ⟨rfl, hg⟩
  obtain ⟨rfl, hg⟩ := hrel
  go_wp2
  go_ret
  exact ⟨rfl, hg⟩
set_option maxRecDepth 100000 in
set_option maxHeartbeats 4000000 in
theorem flatEvidenceRow_nil (w : World) : Calls Tryz.prog 60 #[.slice none 0 0] w fun e w' => e = .returned (.bool true) ∧ w.grownBy w' none := by
  go_enter Tryz.func60, Tryz.ntmps60
  go_wp2
  go_loopw [3] (fun i wr => i = .int .i64 0 ∧ w.grownBy wr none) (fun _ _ => 0)
  case atStart => exact ⟨rfl, gb_refl _ _⟩
  obtain ⟨rfl, hg⟩ := hrel
  obtain ⟨w2, hmk, hg2⟩ := make_none 69 169 Tryz.underlying69 (by kernel_rfl) wr
  have hg3 := gb_trans hg hg2
  go_wp2
  go_loopw [6] (fun i wr => i = .int .i64 0 ∧ w.grownBy wr none) (fun _ _ => 0)
  case atStart => exact ⟨rfl, hg3⟩
  obtain ⟨rfl, hg⟩ := hrel
  go_wp2
  go_loopw [9] (fun i wr => i = .int .i64 0 ∧ w.grownBy wr none) (fun _ _ => 0)
  case atStart => exact ⟨rfl, hg⟩
  obtain ⟨rfl, hg⟩ := hrel
  go_wp2
  go_loopw [11] (fun i wr => i = .int .i64 0 ∧ w.grownBy wr none) (fun _ _ => 0)
  case atStart => exact ⟨rfl, hg⟩
  obtain ⟨rfl, hg⟩ := hrel
  go_wp2
  go_loopw [14] (fun i wr => i = .int .i64 0 ∧ w.grownBy wr none) (fun _ _ => 0)
  case atStart => exact ⟨rfl, hg⟩
  obtain ⟨rfl, hg⟩ := hrel
  go_wp2
  go_ret
  exact ⟨rfl, hg⟩
set_option maxRecDepth 100000 in
set_option maxHeartbeats 4000000 in
theorem flatFrames_nil (w : World) : Calls Tryz.prog 61 #[.slice none 0 0] w fun e w' => e = .returned (.bool true) ∧ w.grownBy w' none := by
  go_enter Tryz.func61, Tryz.ntmps61
  go_wp2
  go_loopw [3] (fun i wr => i = .int .i64 0 ∧ w.grownBy wr none) (fun _ _ => 0)
  case atStart => exact ⟨rfl, gb_refl _ _⟩
  obtain ⟨rfl, hg⟩ := hrel
  obtain ⟨w2, hmk, hg2⟩ := make_none 70 174 Tryz.underlying70 (by kernel_rfl) wr
  have hg3 := gb_trans hg hg2
  go_wp2
  go_loopw [6] (fun i wr => i = .int .i64 0 ∧ w.grownBy wr none) (fun _ _ => 0)
  case atStart => exact ⟨rfl, hg3⟩
  obtain ⟨rfl, hg⟩ := hrel
  go_wp2
  go_loopw [9] (fun i wr => i = .int .i64 0 ∧ w.grownBy wr none) (fun _ _ => 0)
  case atStart => exact ⟨rfl, hg⟩
  obtain ⟨rfl, hg⟩ := hrel
  go_wp2
  go_loopw [11] (fun i wr => i = .int .i64 0 ∧ w.grownBy wr none) (fun _ _ => 0)
  case atStart => exact ⟨rfl, hg⟩
  obtain ⟨rfl, hg⟩ := hrel
  go_wp2
  go_loopw [14] (fun i wr => i = .int .i64 0 ∧ w.grownBy wr none) (fun _ _ => 0)
  case atStart => exact ⟨rfl, hg⟩
  obtain ⟨rfl, hg⟩ := hrel
  go_wp2
  go_ret
  exact ⟨rfl, hg⟩
set_option maxRecDepth 100000 in
set_option maxHeartbeats 4000000 in
theorem flatPackets_nil (w : World) : Calls Tryz.prog 62 #[.slice none 0 0] w fun e w' => e = .returned (.bool true) ∧ w.grownBy w' none := by
  go_enter Tryz.func62, Tryz.ntmps62
  go_wp2
  go_loopw [3] (fun i wr => i = .int .i64 0 ∧ w.grownBy wr none) (fun _ _ => 0)
  case atStart => exact ⟨rfl, gb_refl _ _⟩
  obtain ⟨rfl, hg⟩ := hrel
  obtain ⟨w2, hmk, hg2⟩ := make_none 71 181 Tryz.underlying71 (by kernel_rfl) wr
  have hg3 := gb_trans hg hg2
  go_wp2
  go_loopw [6] (fun i wr => i = .int .i64 0 ∧ w.grownBy wr none) (fun _ _ => 0)
  case atStart => exact ⟨rfl, hg3⟩
  obtain ⟨rfl, hg⟩ := hrel
  go_wp2
  go_loopw [9] (fun i wr => i = .int .i64 0 ∧ w.grownBy wr none) (fun _ _ => 0)
  case atStart => exact ⟨rfl, hg⟩
  obtain ⟨rfl, hg⟩ := hrel
  go_wp2
  go_loopw [11] (fun i wr => i = .int .i64 0 ∧ w.grownBy wr none) (fun _ _ => 0)
  case atStart => exact ⟨rfl, hg⟩
  obtain ⟨rfl, hg⟩ := hrel
  go_wp2
  go_loopw [14] (fun i wr => i = .int .i64 0 ∧ w.grownBy wr none) (fun _ _ => 0)
  case atStart => exact ⟨rfl, hg⟩
  obtain ⟨rfl, hg⟩ := hrel
  go_wp2
  go_ret
  exact ⟨rfl, hg⟩
set_option maxRecDepth 100000 in
set_option maxHeartbeats 4000000 in
theorem flatEntries_nil (w : World) : Calls Tryz.prog 63 #[.slice none 0 0] w fun e w' => e = .returned (.bool true) ∧ w.grownBy w' none := by
  go_enter Tryz.func63, Tryz.ntmps63
  go_wp2
  go_loopw [3] (fun i wr => i = .int .i64 0 ∧ w.grownBy wr none) (fun _ _ => 0)
  case atStart => exact ⟨rfl, gb_refl _ _⟩
  obtain ⟨rfl, hg⟩ := hrel
  obtain ⟨w2, hmk, hg2⟩ := make_none 72 186 Tryz.underlying72 (by kernel_rfl) wr
  have hg3 := gb_trans hg hg2
  go_wp2
  go_loopw [6] (fun i wr => i = .int .i64 0 ∧ w.grownBy wr none) (fun _ _ => 0)
  case atStart => exact ⟨rfl, hg3⟩
  obtain ⟨rfl, hg⟩ := hrel
  go_wp2
  go_loopw [9] (fun i wr => i = .int .i64 0 ∧ w.grownBy wr none) (fun _ _ => 0)
  case atStart => exact ⟨rfl, hg⟩
  obtain ⟨rfl, hg⟩ := hrel
  go_wp2
  go_loopw [11] (fun i wr => i = .int .i64 0 ∧ w.grownBy wr none) (fun _ _ => 0)
  case atStart => exact ⟨rfl, hg⟩
  obtain ⟨rfl, hg⟩ := hrel
  go_wp2
  go_loopw [14] (fun i wr => i = .int .i64 0 ∧ w.grownBy wr none) (fun _ _ => 0)
  case atStart => exact ⟨rfl, hg⟩
  obtain ⟨rfl, hg⟩ := hrel
  go_wp2
  go_ret
  exact ⟨rfl, hg⟩
set_option maxRecDepth 100000 in
set_option maxHeartbeats 4000000 in
theorem flatHeldRow_nil (w : World) : Calls Tryz.prog 64 #[.slice none 0 0] w fun e w' => e = .returned (.bool true) ∧ w.grownBy w' none := by
  go_enter Tryz.func64, Tryz.ntmps64
  go_wp2
  go_loopw [3] (fun i wr => i = .int .i64 0 ∧ w.grownBy wr none) (fun _ _ => 0)
  case atStart => exact ⟨rfl, gb_refl _ _⟩
  obtain ⟨rfl, hg⟩ := hrel
  obtain ⟨w2, hmk, hg2⟩ := make_none 73 192 Tryz.underlying73 (by kernel_rfl) wr
  have hg3 := gb_trans hg hg2
  go_wp2
  go_loopw [6] (fun i wr => i = .int .i64 0 ∧ w.grownBy wr none) (fun _ _ => 0)
  case atStart => exact ⟨rfl, hg3⟩
  obtain ⟨rfl, hg⟩ := hrel
  go_wp2
  go_loopw [9] (fun i wr => i = .int .i64 0 ∧ w.grownBy wr none) (fun _ _ => 0)
  case atStart => exact ⟨rfl, hg⟩
  obtain ⟨rfl, hg⟩ := hrel
  go_wp2
  go_loopw [11] (fun i wr => i = .int .i64 0 ∧ w.grownBy wr none) (fun _ _ => 0)
  case atStart => exact ⟨rfl, hg⟩
  obtain ⟨rfl, hg⟩ := hrel
  go_wp2
  go_loopw [14] (fun i wr => i = .int .i64 0 ∧ w.grownBy wr none) (fun _ _ => 0)
  case atStart => exact ⟨rfl, hg⟩
  obtain ⟨rfl, hg⟩ := hrel
  go_wp2
  go_ret
  exact ⟨rfl, hg⟩
set_option maxRecDepth 100000 in
set_option maxHeartbeats 4000000 in
theorem flatConfigs_nil (w : World) : Calls Tryz.prog 65 #[.slice none 0 0] w fun e w' => e = .returned (.bool true) ∧ w.grownBy w' none := by
  go_enter Tryz.func65, Tryz.ntmps65
  go_wp2
  go_loopw [3] (fun i wr => i = .int .i64 0 ∧ w.grownBy wr none) (fun _ _ => 0)
  case atStart => exact ⟨rfl, gb_refl _ _⟩
  obtain ⟨rfl, hg⟩ := hrel
  obtain ⟨w2, hmk, hg2⟩ := make_none 74 197 Tryz.underlying74 (by kernel_rfl) wr
  have hg3 := gb_trans hg hg2
  go_wp2
  go_loopw [6] (fun i wr => i = .int .i64 0 ∧ w.grownBy wr none) (fun _ _ => 0)
  case atStart => exact ⟨rfl, hg3⟩
  obtain ⟨rfl, hg⟩ := hrel
  go_wp2
  go_loopw [9] (fun i wr => i = .int .i64 0 ∧ w.grownBy wr none) (fun _ _ => 0)
  case atStart => exact ⟨rfl, hg⟩
  obtain ⟨rfl, hg⟩ := hrel
  go_wp2
  go_loopw [11] (fun i wr => i = .int .i64 0 ∧ w.grownBy wr none) (fun _ _ => 0)
  case atStart => exact ⟨rfl, hg⟩
  obtain ⟨rfl, hg⟩ := hrel
  go_wp2
  go_loopw [14] (fun i wr => i = .int .i64 0 ∧ w.grownBy wr none) (fun _ _ => 0)
  case atStart => exact ⟨rfl, hg⟩
  obtain ⟨rfl, hg⟩ := hrel
  go_wp2
  go_ret
  exact ⟨rfl, hg⟩
set_option maxRecDepth 100000 in
set_option maxHeartbeats 4000000 in
theorem flatSteps_nil (w : World) : Calls Tryz.prog 66 #[.slice none 0 0] w fun e w' => e = .returned (.bool true) ∧ w.grownBy w' none := by
  go_enter Tryz.func66, Tryz.ntmps66
  go_wp2
  go_loopw [3] (fun i wr => i = .int .i64 0 ∧ w.grownBy wr none) (fun _ _ => 0)
  case atStart => exact ⟨rfl, gb_refl _ _⟩
  obtain ⟨rfl, hg⟩ := hrel
  obtain ⟨w2, hmk, hg2⟩ := make_none 75 202 Tryz.underlying75 (by kernel_rfl) wr
  have hg3 := gb_trans hg hg2
  go_wp2
  go_loopw [6] (fun i wr => i = .int .i64 0 ∧ w.grownBy wr none) (fun _ _ => 0)
  case atStart => exact ⟨rfl, hg3⟩
  obtain ⟨rfl, hg⟩ := hrel
  go_wp2
  go_loopw [9] (fun i wr => i = .int .i64 0 ∧ w.grownBy wr none) (fun _ _ => 0)
  case atStart => exact ⟨rfl, hg⟩
  obtain ⟨rfl, hg⟩ := hrel
  go_wp2
  go_loopw [11] (fun i wr => i = .int .i64 0 ∧ w.grownBy wr none) (fun _ _ => 0)
  case atStart => exact ⟨rfl, hg⟩
  obtain ⟨rfl, hg⟩ := hrel
  go_wp2
  go_loopw [14] (fun i wr => i = .int .i64 0 ∧ w.grownBy wr none) (fun _ _ => 0)
  case atStart => exact ⟨rfl, hg⟩
  obtain ⟨rfl, hg⟩ := hrel
  go_wp2
  go_ret
  exact ⟨rfl, hg⟩
set_option maxRecDepth 100000 in
set_option maxHeartbeats 4000000 in
theorem flatTales_nil (w : World) : Calls Tryz.prog 67 #[.slice none 0 0] w fun e w' => e = .returned (.bool true) ∧ w.grownBy w' none := by
  go_enter Tryz.func67, Tryz.ntmps67
  go_wp2
  go_loopw [3] (fun i wr => i = .int .i64 0 ∧ w.grownBy wr none) (fun _ _ => 0)
  case atStart => exact ⟨rfl, gb_refl _ _⟩
  obtain ⟨rfl, hg⟩ := hrel
  obtain ⟨w2, hmk, hg2⟩ := make_none 76 208 Tryz.underlying76 (by kernel_rfl) wr
  have hg3 := gb_trans hg hg2
  go_wp2
  go_loopw [6] (fun i wr => i = .int .i64 0 ∧ w.grownBy wr none) (fun _ _ => 0)
  case atStart => exact ⟨rfl, hg3⟩
  obtain ⟨rfl, hg⟩ := hrel
  go_wp2
  go_loopw [9] (fun i wr => i = .int .i64 0 ∧ w.grownBy wr none) (fun _ _ => 0)
  case atStart => exact ⟨rfl, hg⟩
  obtain ⟨rfl, hg⟩ := hrel
  go_wp2
  go_loopw [11] (fun i wr => i = .int .i64 0 ∧ w.grownBy wr none) (fun _ _ => 0)
  case atStart => exact ⟨rfl, hg⟩
  obtain ⟨rfl, hg⟩ := hrel
  go_wp2
  go_loopw [14] (fun i wr => i = .int .i64 0 ∧ w.grownBy wr none) (fun _ _ => 0)
  case atStart => exact ⟨rfl, hg⟩
  obtain ⟨rfl, hg⟩ := hrel
  go_wp2
  go_ret
  exact ⟨rfl, hg⟩
end Ft
end Go.Proofs.YtmnlidfalhjghaaGreatDoor

/- The kit's bag, lists of truths in it alone: apart. (gen_bag.py) -/
namespace Go.Proofs.YtmnlidfalhjghaaGreatDoor
open Go.RowKit Ow
namespace Ft

theorem Lists.Apart.mono {V : Lists} {m LB a b : Nat} (h : V.Apart m LB a) (hab : a ≤ b) : V.Apart m LB b := ⟨h.apart, h.ls, fun j hj i e => Nat.lt_of_lt_of_le (h.old j hj i e) hab, h.small⟩
/-- what lies in a bag -/
structure BagB (w : World) (B LB m C : Nat) : Prop where
  lt : B < w.heap.size
  nil : ∀ i, i < 24 → i ≠ 6 → w.cell? ⟨B, i, none⟩ = some (.slice none 0 0)
  five : w.cell? ⟨B, 6, none⟩ = some (.slice (some ⟨LB, 0, none⟩) m C)
theorem BagB.stay {w w' : World} {B LB m C : Nat} (h : BagB w B LB m C) (hg : w.grownBy w' none) : BagB w' B LB m C :=
  ⟨Nat.lt_of_lt_of_le h.lt hg.size, fun i hi h5 => by rw [gb_cell hg h.lt (by simp)]; exact h.nil i hi h5, by rw [gb_cell hg h.lt (by simp)]; exact h.five⟩
theorem BagB.kb {S : Nat → Prop} {w w' : World} {B LB m C : Nat} (h : BagB w B LB m C) (hk : Kb S w w') (hs : ¬ S B) : BagB w' B LB m C :=
  ⟨Nat.lt_of_lt_of_le h.lt hk.size, fun i hi h5 => by rw [hk.cell (p := ⟨B, i, none⟩) h.lt hs]; exact h.nil i hi h5, by rw [hk.cell (p := ⟨B, 6, none⟩) h.lt hs]; exact h.five⟩
theorem FlatAt.from {V : Lists} {m LB : Nat} {w w1 w2 : World} {r : Nat → List Value} (h : FlatAt V m LB w1 w2 r) (hg : w.grownBy w1 none) : FlatAt V m LB w w2 r :=
  ⟨h.own, h.list, kb_trans (kb_stay (kb_refl _ _) hg) h.kept⟩
set_option maxRecDepth 100000 in
set_option maxHeartbeats 4000000 in
theorem apart_truths {f : Nat → Nat → Nat} (hf : MarksT f) (V : Lists) (m LB C B : Nat) (xs : Nat → List Value) (w : World) (hm : m ≤ 70000) (hC : m ≤ C) (hC2 : C < 9223372036854775808) (hV : V.Apart m LB w.heap.size) (hO : Owns w V m xs) (hL : ListAt w LB V m) (hB : BagB w B LB m C) (hBV : ∀ j, j < m → V.g j ≠ some B) :
    Calls Tryz.prog 33 #[.pointer (some ⟨B, 0, none⟩)] w fun e w' => e = .returned (.bool true) ∧ FlatAt V m LB w w' (fun j => mkV f j (V.n j)) := by
  have H := Lib.hid (And.intro hV (And.intro hO (And.intro hL hBV))); clear hV hO hL hBV
  have HF := Lib.hid hf; clear hf
  have HB0 := Lib.hid (And.intro hB (gb_refl w none)); clear hB
  have HM := Lib.hid (And.intro hm (And.intro hC hC2))
  go_enter Tryz.func33, Tryz.ntmps33
  have c := HB0.out.1.nil 0 (by decide) (by decide)
  go_wp2_with fail
  clear c
  refine (flatLimbs_nil _).mono ?_
  rintro e w1 ⟨rfl, h⟩
  have HB1 := Lib.hid (And.intro (HB0.out.1.stay h) (gb_trans HB0.out.2 h)); clear h HB0
  have c := HB1.out.1.nil 1 (by decide) (by decide)
  go_wp2_with fail
  clear c
  refine (flatWords_nil _).mono ?_
  rintro e w2 ⟨rfl, h⟩
  have HB2 := Lib.hid (And.intro (HB1.out.1.stay h) (gb_trans HB1.out.2 h)); clear h HB1
  have c := HB2.out.1.nil 2 (by decide) (by decide)
  go_wp2_with fail
  clear c
  refine (flatInts_nil _).mono ?_
  rintro e w3 ⟨rfl, h⟩
  have HB3 := Lib.hid (And.intro (HB2.out.1.stay h) (gb_trans HB2.out.2 h)); clear h HB2
  have c := HB3.out.1.nil 3 (by decide) (by decide)
  go_wp2_with fail
  clear c
  refine (flatLongs_nil _).mono ?_
  rintro e w4 ⟨rfl, h⟩
  have HB4 := Lib.hid (And.intro (HB3.out.1.stay h) (gb_trans HB3.out.2 h)); clear h HB3
  have c := HB4.out.1.nil 4 (by decide) (by decide)
  go_wp2_with fail
  clear c
  refine (flatTexts_nil _).mono ?_
  rintro e w5 ⟨rfl, h⟩
  have HB5 := Lib.hid (And.intro (HB4.out.1.stay h) (gb_trans HB4.out.2 h)); clear h HB4
  have c := HB5.out.1.nil 5 (by decide) (by decide)
  go_wp2_with fail
  clear c
  refine (flatBytes_nil _).mono ?_
  rintro e w6 ⟨rfl, h⟩
  have HB6 := Lib.hid (And.intro (HB5.out.1.stay h) (gb_trans HB5.out.2 h)); clear h HB5
  have c := HB6.out.1.five
  go_wp2_with fail
  clear c
  refine (flatT_any HF.out V m LB C xs _ HM.out.1 HM.out.2.1 HM.out.2.2 (H.out.1.mono HB6.out.2.size) (H.out.2.1.stay HB6.out.2) (H.out.2.2.1.grown HB6.out.2 (by simp))).mono ?_
  rintro e w7 ⟨rfl, h⟩
  have HB7 := Lib.hid (And.intro (HB6.out.1.kb h.kept (fun ⟨j, hj, e⟩ => H.out.2.2.2 j hj e)) (h.from HB6.out.2)); clear h HB6
  have c := HB7.out.1.nil 7 (by decide) (by decide)
  go_wp2_with fail
  clear c
  refine (flatRows_nil _).mono ?_
  rintro e w8 ⟨rfl, h⟩
  have HB8 := Lib.hid (And.intro (HB7.out.1.stay h) (HB7.out.2.stay h)); clear h HB7
  have c := HB8.out.1.nil 8 (by decide) (by decide)
  go_wp2_with fail
  clear c
  refine (flatDots_nil _).mono ?_
  rintro e w9 ⟨rfl, h⟩
  have HB9 := Lib.hid (And.intro (HB8.out.1.stay h) (HB8.out.2.stay h)); clear h HB8
  have c := HB9.out.1.nil 9 (by decide) (by decide)
  go_wp2_with fail
  clear c
  refine (flatRecords_nil _).mono ?_
  rintro e w10 ⟨rfl, h⟩
  have HB10 := Lib.hid (And.intro (HB9.out.1.stay h) (HB9.out.2.stay h)); clear h HB9
  have c := HB10.out.1.nil 10 (by decide) (by decide)
  go_wp2_with fail
  clear c
  refine (flatLeaves_nil _).mono ?_
  rintro e w11 ⟨rfl, h⟩
  have HB11 := Lib.hid (And.intro (HB10.out.1.stay h) (HB10.out.2.stay h)); clear h HB10
  have c := HB11.out.1.nil 11 (by decide) (by decide)
  go_wp2_with fail
  clear c
  refine (flatGrants_nil _).mono ?_
  rintro e w12 ⟨rfl, h⟩
  have HB12 := Lib.hid (And.intro (HB11.out.1.stay h) (HB11.out.2.stay h)); clear h HB11
  have c := HB12.out.1.nil 12 (by decide) (by decide)
  go_wp2_with fail
  clear c
  refine (flatNodes_nil _).mono ?_
  rintro e w13 ⟨rfl, h⟩
  have HB13 := Lib.hid (And.intro (HB12.out.1.stay h) (HB12.out.2.stay h)); clear h HB12
  have c := HB13.out.1.nil 13 (by decide) (by decide)
  go_wp2_with fail
  clear c
  refine (flatStubs_nil _).mono ?_
  rintro e w14 ⟨rfl, h⟩
  have HB14 := Lib.hid (And.intro (HB13.out.1.stay h) (HB13.out.2.stay h)); clear h HB13
  have c := HB14.out.1.nil 14 (by decide) (by decide)
  go_wp2_with fail
  clear c
  refine (flatProofs_nil _).mono ?_
  rintro e w15 ⟨rfl, h⟩
  have HB15 := Lib.hid (And.intro (HB14.out.1.stay h) (HB14.out.2.stay h)); clear h HB14
  have c := HB15.out.1.nil 15 (by decide) (by decide)
  go_wp2_with fail
  clear c
  refine (flatRoots_nil _).mono ?_
  rintro e w16 ⟨rfl, h⟩
  have HB16 := Lib.hid (And.intro (HB15.out.1.stay h) (HB15.out.2.stay h)); clear h HB15
  have c := HB16.out.1.nil 16 (by decide) (by decide)
  go_wp2_with fail
  clear c
  refine (flatEvidenceRow_nil _).mono ?_
  rintro e w17 ⟨rfl, h⟩
  have HB17 := Lib.hid (And.intro (HB16.out.1.stay h) (HB16.out.2.stay h)); clear h HB16
  have c := HB17.out.1.nil 17 (by decide) (by decide)
  go_wp2_with fail
  clear c
  refine (flatFrames_nil _).mono ?_
  rintro e w18 ⟨rfl, h⟩
  have HB18 := Lib.hid (And.intro (HB17.out.1.stay h) (HB17.out.2.stay h)); clear h HB17
  have c := HB18.out.1.nil 18 (by decide) (by decide)
  go_wp2_with fail
  clear c
  refine (flatPackets_nil _).mono ?_
  rintro e w19 ⟨rfl, h⟩
  have HB19 := Lib.hid (And.intro (HB18.out.1.stay h) (HB18.out.2.stay h)); clear h HB18
  have c := HB19.out.1.nil 19 (by decide) (by decide)
  go_wp2_with fail
  clear c
  refine (flatEntries_nil _).mono ?_
  rintro e w20 ⟨rfl, h⟩
  have HB20 := Lib.hid (And.intro (HB19.out.1.stay h) (HB19.out.2.stay h)); clear h HB19
  have c := HB20.out.1.nil 20 (by decide) (by decide)
  go_wp2_with fail
  clear c
  refine (flatHeldRow_nil _).mono ?_
  rintro e w21 ⟨rfl, h⟩
  have HB21 := Lib.hid (And.intro (HB20.out.1.stay h) (HB20.out.2.stay h)); clear h HB20
  have c := HB21.out.1.nil 21 (by decide) (by decide)
  go_wp2_with fail
  clear c
  refine (flatConfigs_nil _).mono ?_
  rintro e w22 ⟨rfl, h⟩
  have HB22 := Lib.hid (And.intro (HB21.out.1.stay h) (HB21.out.2.stay h)); clear h HB21
  have c := HB22.out.1.nil 22 (by decide) (by decide)
  go_wp2_with fail
  clear c
  refine (flatSteps_nil _).mono ?_
  rintro e w23 ⟨rfl, h⟩
  have HB23 := Lib.hid (And.intro (HB22.out.1.stay h) (HB22.out.2.stay h)); clear h HB22
  have c := HB23.out.1.nil 23 (by decide) (by decide)
  go_wp2_with fail
  clear c
  refine (flatTales_nil _).mono ?_
  rintro e w24 ⟨rfl, h⟩
  have HB24 := Lib.hid (And.intro (HB23.out.1.stay h) (HB23.out.2.stay h)); clear h HB23
  go_wp2
  go_ret
  exact ⟨rfl, HB24.out.2⟩
end Ft
end Go.Proofs.YtmnlidfalhjghaaGreatDoor

/- The kit's ApartTruths: lists of truths that lie apart. -/
namespace Go.Proofs.YtmnlidfalhjghaaGreatDoor
open Go.RowKit Ow
namespace Ft

set_option maxRecDepth 100000 in
set_option maxHeartbeats 1000000 in
theorem apartT_any {f : Nat → Nat → Nat} (hf : MarksT f) (V : Lists) (m L0 C : Nat) (xs : Nat → List Value) (w : World) (hm : m ≤ 70000) (hm0 : 0 < m) (hC : m ≤ C) (hC2 : C < 9223372036854775808) (hV : V.Apart m L0 w.heap.size) (hO : Owns w V m xs) (hL : ListAt w L0 V m) :
    Calls Tryz.prog 18 #[.slice (some ⟨L0, 0, none⟩) m C] w fun e w' => e = .returned (.bool true) ∧ Owns w' V m (fun j => mkV f j (V.n j)) ∧ Kb (V.S m) w w' := by
  have H := Lib.hid (And.intro hV (And.intro hO hL)); clear hV hO hL
  have HF := Lib.hid hf; clear hf
  go_enter Tryz.func18, Tryz.ntmps18
  have hb0 : Blk (w.alloc (.cells (bagL (.slice none 0 0)).toArray 78)) w.heap.size 78 (bagL (.slice none 0 0)) := Blk.new w _ _
  have hg0 := World.grownBy_alloc w (.cells (bagL (.slice none 0 0)).toArray 78) none
  have H1 := Lib.hid (And.intro hb0 hg0); clear hb0 hg0
  generalize hB : w.heap.size = B at H1
  have HB := Lib.hid hB
  go_wp2_with fail
  go_loopw [4] (fun i wr => ∃ (k : Nat) (v : Value), k ≤ m ∧ i = .int .i64 k ∧ wr.ownsRow B 25 1 v k ((List.range k).map V.v) ∧ Blk wr B 78 (bagL v) ∧ w.grownBy wr none) (fun i _ => m - (intOf i).toNat)
  case atStart => exact ⟨0, .slice none 0 0, by omega, rfl, World.ownsRow_nil _ _ _ 1, H1.out.1, H1.out.2⟩
  case round =>
    clear H1 hB
    obtain ⟨k, v, hk, rfl, ho, hb, hg⟩ := hrel
    by_cases hlt : k < m
    · have i1 : (k : Int) < (m : Int) := by omega
      have kc : wr.cell? ⟨L0, k, none⟩ = some (.slice (V.A k) (V.n k) (V.C k)) := (H.out.2.2.grown hg (by simp)).cell hlt
      have hput := put_truths wr B B k (V.n k) (V.C k) 78 (by decide) v (V.A k) _ ho hb (by omega) (by have := hg.size; have := HB.out; omega)
      have HI := Lib.hid (And.intro hput (And.intro hg ho)); clear hput hg ho hb
      go_wp2_with fail
      refine HI.out.1.mono ?_
      rintro e w5 ⟨⟨r, rfl⟩, v', ho', hb', hK⟩
      have hg' : w.grownBy w5 none := gb_kb HI.out.2.1 hK (fun i hi => by
        have e0 := HB.out
        rcases hi with rfl | hi
        · omega
        · rcases HI.out.2.2.2 with ⟨h0, _⟩ | ⟨g, c, cur, e1, hbg, _⟩
          · rw [h0] at hi; cases hi
          · rw [e1] at hi; have e2 : g = i := by simpa [Value.ownBlock] using hi
            omega)
      rw [show (List.range k).map V.v ++ [Value.slice (V.A k) (V.n k) (V.C k)] = (List.range (k + 1)).map V.v by rw [List.range_succ, List.map_append]; rfl] at ho'
      have HJ := Lib.hid (And.intro ho' (And.intro hb' hg')); clear ho' hb' hg' hK HI
      go_wp2_with fail
      go_roundw
      case rel => exact ⟨k + 1, v', hlt, by go_num, HJ.out⟩
      case measure => simp [intOf]; omega
    · obtain rfl : k = m := by omega
      obtain ⟨g, c, rfl, hbg, hnc, hcm, hlt2⟩ := own_some ho hm0
      have hc63 : c < 9223372036854775808 := by unfold maxLen at hcm; omega
      have hL : ListAt wr g V k := by
        rcases ho.2 with ⟨h0, _⟩ | ⟨g', c', cur, e1, _, hgb, _, _, _, ht⟩
        · cases h0
        · cases e1
          refine ⟨cur.toList.drop (k * 1), ?_⟩
          unfold Blk
          rw [hgb, ← ht, List.take_append_drop, Array.toArray_toList]
      have hV := H.out.1
      have hVg : V.Apart k g wr.heap.size := ⟨hV.apart, fun j hj e => by have := hV.old j hj _ e; have := HB.out; omega, fun j hj i e => Nat.lt_of_lt_of_le (hV.old j hj i e) hg.size, hV.small⟩
      have hap := apart_truths HF.out V k g c B xs wr hm hnc hc63 hVg (H.out.2.1.stay hg) hL ⟨hb.lt, fun i hi h5 => hb.cell (bagL_nil _ i hi h5), hb.cell (bagL_five _)⟩ (fun j hj e => by have := hV.old j hj _ e; have := HB.out; omega)
      have HI := Lib.hid (And.intro hap hg); clear hap hg hb ho hL hVg hV
      go_wp2_with fail
      refine HI.out.1.mono ?_
      rintro e w5 ⟨rfl, hF⟩
      have HJ := Lib.hid (hF.from HI.out.2); clear hF
      go_wp2
      go_ret
      exact ⟨rfl, HJ.out.own, HJ.out.kept⟩
end Ft
end Go.Proofs.YtmnlidfalhjghaaGreatDoor

/- ApartTruths of two rows of one's own. -/
namespace Go.Proofs.YtmnlidfalhjghaaGreatDoor
open Go.RowKit Ow
namespace Ft
def V2 (a1 a2 : Option Addr) (n1 n2 c1 c2 : Nat) : Lists := ⟨fun j => if j = 0 then a1 else a2, fun j => if j = 0 then n1 else n2, fun j => if j = 0 then c1 else c2⟩
theorem row_shape2 {w : World} {base e n : Nat} {v : Value} {xs : List Value} (h : w.ownsRow base e 1 v n xs) : ∃ a c, v = .slice a n c := by
  rcases own_shape h with ⟨rfl, h0⟩ | ⟨g, c, rfl⟩
  · exact ⟨none, 0, by rw [h0]⟩
  · exact ⟨_, _, rfl⟩
theorem two {P : Nat → Prop} (h0 : P 0) (h1 : P 1) : ∀ j, j < 2 → P j := fun j hj => by
  rcases (by omega : j = 0 ∨ j = 1) with rfl | rfl <;> assumption
theorem apart2 {f : Nat → Nat → Nat} (hf : MarksT f) (w0 w : World) (v1 v2 : Value) (b n1 n2 : Nat) (x1 x2 : List Value) (hb : w0.heap.size ≤ b) (hg : w0.grownBy w none)
    (h1 : w.ownsRow b 4 1 v1 n1 x1) (h2 : w.ownsRow b 4 1 v2 n2 x2) (d12 : v1.ownBlock = none ∨ v1.ownBlock ≠ v2.ownBlock) (hs : n1 ≤ 100000 ∧ n2 ≤ 100000) :
    Calls Tryz.prog 18 #[.slice (some ⟨w.heap.size, 0, none⟩) 2 2] (w.alloc (.cells #[v1, v2] 25)) fun e w' => e = .returned (.bool true) ∧ w0.grownBy w' none := by
  obtain ⟨a1, c1, rfl⟩ := row_shape2 h1
  obtain ⟨a2, c2, rfl⟩ := row_shape2 h2
  have l1 := h1.lt
  have l2 := h2.lt
  have hgA : w.grownBy (w.alloc (.cells #[.slice a1 n1 c1, .slice a2 n2 c2] 25)) none := gb_alloc (gb_refl _ _) _
  have hB : Blk (w.alloc (.cells #[.slice a1 n1 c1, .slice a2 n2 c2] 25)) w.heap.size 25 [.slice a1 n1 c1, .slice a2 n2 c2] := Blk.new _ _ _
  have k1 := own_kept h1 hgA
  have k2 := own_kept h2 hgA
  generalize w.alloc (.cells #[.slice a1 n1 c1, .slice a2 n2 c2] 25) = W at *
  have e1 : ∀ (a : Option Addr) (n c : Nat), (Value.slice a n c).ownBlock = a.map (·.block) := fun a n c => by unfold Value.ownBlock; cases a <;> rfl
  rw [e1] at l1 l2
  simp only [e1] at d12
  have hsz := hgA.size
  have hV : (V2 a1 a2 n1 n2 c1 c2).Apart 2 w.heap.size W.heap.size := by
    refine ⟨?_, two ?_ ?_, two ?_ ?_, two hs.1 hs.2⟩
    · intro j k hj hk hne
      rcases (by omega : j = 0 ∨ j = 1) with rfl | rfl
      all_goals rcases (by omega : k = 0 ∨ k = 1) with rfl | rfl
      · exact absurd rfl hne
      · exact d12
      · exact (Classical.em ((V2 a1 a2 n1 n2 c1 c2).g 1 = none)).elim Or.inl fun hn => Or.inr fun e => d12.elim (fun h => hn (e.trans h)) (fun h => h e.symm)
      · exact absurd rfl hne
    · exact fun e => by have := (l1 _ e).2; omega
    · exact fun e => by have := (l2 _ e).2; omega
    · exact fun i e => by have := (l1 _ e).2; omega
    · exact fun i e => by have := (l2 _ e).2; omega
  have hO : Owns W (V2 a1 a2 n1 n2 c1 c2) 2 (fun j => if j = 0 then x1 else x2) := two (own_down k1 (Nat.zero_le _)) (own_down k2 (Nat.zero_le _))
  have hL : ListAt W w.heap.size (V2 a1 a2 n1 n2 c1 c2) 2 := ⟨[], hB⟩
  refine (apartT_any hf _ 2 w.heap.size 2 _ W (by omega) (by omega) (by omega) (by omega) hV hO hL).mono ?_
  rintro e w' ⟨rfl, _, hk⟩
  have hgW := gb_trans hg hgA
  refine ⟨rfl, hk.os.trans hgW.os, hk.tape.trans hgW.tape, hk.output.trans hgW.output, Nat.le_trans hgW.size hk.size, fun i hi hr => (hk.block i (Nat.lt_of_lt_of_le hi hgW.size) ?_).trans (hgW.block i hi hr)⟩
  rintro ⟨j, hj, e⟩
  revert e
  exact two (P := fun j => (V2 a1 a2 n1 n2 c1 c2).g j = some i → False) (fun e => by have := (l1 _ e).1; omega) (fun e => by have := (l2 _ e).1; omega) j hj
end Ft
end Go.Proofs.YtmnlidfalhjghaaGreatDoor

/- What the law on reduced bytes asks: for each length. -/
namespace Go.Proofs.YtmnlidfalhjghaaGreatDoor
open Go.RowKit Ow
namespace Sr
def redR (x : List Nat) : List Nat := if x.length ≤ 64 then scB (num x) else []
theorem redR_len (x : List Nat) : (redR x).length ≤ 32 := by unfold redR; split <;> simp [scB_length]
theorem redR_lt (x : List Nat) : ∀ i, (redR x).getD i 0 < 256 := fun i => by unfold redR; split; exact scB_lt _ _; simp
def rightR (x : List Nat) : Bool := if x.length = 32 then decide (num x < Sc.L) else false
def bitsR (x : List Nat) : List Bool := if x.length = 32 then bitsTo (fun i => x.getD i 0) 256 else []
theorem bitsR_len (x : List Nat) : (bitsR x).length ≤ 256 := by unfold bitsR; split <;> simp [bitsTo_length]
set_option maxHeartbeats 1000000 in
theorem reduce_none (n ca : Nat) (a : Option Addr) (w : World) (hn : 64 < n) :
    Calls Tryz.prog 8 #[.slice a n ca] w fun e w' => e = .returned (.slice none 0 0) ∧ w.grownBy w' none := by
  have h64 : (n : Int) > 64 := by omega
  go_enter Tryz.func8, Tryz.ntmps8
  go_wp2
  go_ret
  exact ⟨rfl, gb_refl _ _⟩
set_option maxHeartbeats 1000000 in
theorem right_none (n ca : Nat) (a : Option Addr) (w : World) (hn : n ≠ 32) :
    Calls Tryz.prog 12 #[.slice a n ca] w fun e w' => e = .returned (.bool false) ∧ w.grownBy w' none := by
  have h64 : ¬ (n : Int) = 32 := by omega
  go_enter Tryz.func12, Tryz.ntmps12
  go_wp2
  go_ret
  exact ⟨rfl, gb_refl _ _⟩
set_option maxHeartbeats 1000000 in
theorem sbits_none (n ca : Nat) (a : Option Addr) (w : World) (hn : n ≠ 32) :
    Calls Tryz.prog 9 #[.slice a n ca] w fun e w' => e = .returned (.slice none 0 0) ∧ w.grownBy w' none := by
  have h64 : ¬ (n : Int) = 32 := by omega
  go_enter Tryz.func9, Tryz.ntmps9
  go_wp2
  go_ret
  exact ⟨rfl, gb_refl _ _⟩
theorem redG_any (n ca B : Nat) (a : Option Addr) (x : List Nat) (w : World) (h1 : x.length = n) (hA : BytesAt w B a ca x) (hT : OTab w) :
    Calls Tryz.prog 8 #[.slice a n ca] w (YB (redR x) w) := by
  by_cases h : n ≤ 64
  · have e : redR x = scB (num x) := if_pos (by omega)
    rw [e]
    exact (reduce_any n ca B a x w h1 h hA hT).mono fun _ _ h => YB.of (by rw [scB_length]; decide) h
  · have e : redR x = [] := if_neg (by omega)
    rw [e]
    exact (reduce_none n ca a w (by omega)).mono fun _ _ ⟨he, hg⟩ => by rw [he]; exact YB.none _ _ hg
theorem rredG_any (n ca B : Nat) (a : Option Addr) (x : List Nat) (w : World) (h1 : x.length = n) (hA : BytesAt w B a ca x) :
    Calls Tryz.prog 11 #[.slice a n ca] w (RB (redR x) w) := by
  by_cases h : n ≤ 64
  · have e : redR x = scB (num x) := if_pos (by omega)
    rw [e]
    exact (rreduce_any n ca B a x w h h1 hA).mono fun _ _ h => RB.of h
  · have e : redR x = [] := if_neg (by omega)
    rw [e]
    exact (rreduce_none n ca a w (by omega)).mono fun _ _ ⟨he, hg⟩ => by rw [he]; exact RB.none _ _ hg
theorem rightG_any (n ca B : Nat) (a : Option Addr) (x : List Nat) (w : World) (h1 : x.length = n) (hA : BytesAt w B a ca x) (hT : OTab w) :
    Calls Tryz.prog 12 #[.slice a n ca] w fun e w' => e = .returned (.bool (rightR x)) ∧ w.grownBy w' none := by
  by_cases h : n = 32
  · subst h
    have e : rightR x = decide (num x < Sc.L) := if_pos h1
    rw [e]
    exact sright_any ca B a x w h1 hA hT
  · have e : rightR x = false := if_neg (by omega)
    rw [e]
    exact right_none n ca a w h
theorem rrightG_any (n ca B : Nat) (a : Option Addr) (x : List Nat) (w : World) (h1 : x.length = n) (hA : BytesAt w B a ca x) :
    Calls Tryz.prog 13 #[.slice a n ca] w fun e w' => e = .returned (.bool (rightR x)) ∧ w.grownBy w' none := by
  by_cases h : n = 32
  · subst h
    have e : rightR x = decide (num x < Sc.L) := if_pos h1
    rw [e]
    exact rright_any ca B a x w h1 hA
  · have e : rightR x = false := if_neg (by omega)
    rw [e]
    exact rright_none n ca a w h
/-- truths in a row of one's own, or none -/
def YT (R : List Bool) (w : World) (e : Ending) (w' : World) : Prop := ∃ a cap, e = .returned (.slice a R.length cap) ∧ w.grownBy w' none ∧ w'.ownsRow w.heap.size 4 1 (.slice a R.length cap) R.length (R.map .bool)
theorem YT.none (w w' : World) (hg : w.grownBy w' none) : YT [] w (.returned (.slice none 0 0)) w' := ⟨_, _, rfl, hg, World.ownsRow_nil _ _ _ 1⟩
theorem bitsG_any (n ca B : Nat) (a : Option Addr) (x : List Nat) (w : World) (h1 : x.length = n) (hA : BytesAt w B a ca x) :
    Calls Tryz.prog 9 #[.slice a n ca] w (YT (bitsR x) w) := by
  by_cases h : n = 32
  · subst h
    have e : bitsR x = bitsTo (fun i => x.getD i 0) 256 := if_pos h1
    rw [e]
    refine (bits_any ca B a x w h1 hA).mono fun e w' h => ?_
    obtain ⟨g, rfl, hg, hs, hb⟩ := h
    exact ⟨_, _, rfl, hg, own_of_blk hb (by rw [List.length_map]) hs (by rw [bitsTo_length]; decide)⟩
  · have e : bitsR x = [] := if_neg (by omega)
    rw [e]
    exact (sbits_none n ca a w h).mono fun _ _ ⟨he, hg⟩ => by rw [he]; exact YT.none _ _ hg
theorem row_shapeT {w : World} {base e n : Nat} {v : Value} {xs : List Value} (h : w.ownsRow base e 1 v n xs) : ∃ a c, v = .slice a n c := by
  rcases own_shape h with ⟨rfl, h0⟩ | ⟨g, c, rfl⟩
  · exact ⟨Option.none, 0, by rw [h0]⟩
  · exact ⟨_, _, rfl⟩
theorem rbitsG_any (n ca B : Nat) (a : Option Addr) (x : List Nat) (w : World) (h1 : x.length = n) (hA : BytesAt w B a ca x) :
    Calls Tryz.prog 15 #[.slice a n ca] w (YT (bitsR x) w) := by
  by_cases h : n = 32
  · subst h
    have e : bitsR x = bitsTo (fun i => x.getD i 0) 256 := if_pos h1
    rw [e]
    refine (rbits_any ca B a x w h1 hA).mono fun e w' h => ?_
    obtain ⟨v, rfl, hg, ho⟩ := h
    obtain ⟨a', c', rfl⟩ := row_shapeT ho
    exact ⟨a', c', by rw [bitsTo_length], hg, by rw [bitsTo_length]; exact ho⟩
  · have e : bitsR x = [] := if_neg (by omega)
    rw [e]
    exact (rbits_none n ca a w h).mono fun _ _ ⟨he, hg⟩ => by rw [he]; exact YT.none _ _ hg
theorem sameT_any (n ca cb b1 b2 : Nat) (a b : Option Addr) (l : List Bool) (w : World) (hn : n ≤ 1000000) (hl : l.length = n) (h1 : w.ownsRow b1 4 1 (.slice a n ca) n (l.map .bool)) (h2 : w.ownsRow b2 4 1 (.slice b n cb) n (l.map .bool)) :
    Calls Tryz.prog 14 #[.slice a n ca, .slice b n cb] w fun e w' => e = .returned (.bool true) ∧ w.grownBy w' none := by
  rcases Nat.eq_zero_or_pos n with h0 | h0
  · subst h0
    exact sameTruths_nil ca cb a b w
  · obtain ⟨ga, c1, e1, _, _, _, hl1⟩ := own_some h1 h0
    obtain ⟨gb, c2, e2, _, _, _, hl2⟩ := own_some h2 h0
    cases e1
    cases e2
    refine sameTruths_yes n ca cb ga gb l w hn (fun j hj => own_cell h1 ?_) (fun j hj => own_cell h2 ?_) hl1 hl2
    all_goals rw [List.getElem?_map, List.getElem?_eq_getElem (by omega), List.getD_eq_getElem?_getD, List.getElem?_eq_getElem (by omega)]; rfl
end Sr
end Go.Proofs.YtmnlidfalhjghaaGreatDoor

/- The law on what any bytes are reduced to, walked. -/
namespace Go.Proofs.YtmnlidfalhjghaaGreatDoor
open Go.RowKit Ow
namespace Sr
set_option linter.unusedSimpArgs false
theorem reds_great (n c : Nat) (a : Option Addr) (w : World) (hT : OTab w) (h : 200 < n) :
    Calls Tryz.prog 3 #[.slice a n c] w fun e w' => e = .returned (.bool true) ∧ w.grownBy w' none := by
  have HW := Lib.hid (awake_any w hT); clear hT
  have i1 : (n : Int) > 200 := by omega
  clear h
  go_enter Tryz.func3, Tryz.ntmps3
  go_wp2_with fail
  refine HW.out.mono ?_
  rintro e w1 ⟨rfl, hg1⟩
  have HG := Lib.hid hg1; clear hg1 HW
  go_wp2
  go_ret
  exact ⟨rfl, HG.out⟩
set_option maxRecDepth 100000 in
set_option maxHeartbeats 4000000 in
theorem reds_small {f ft : Nat → Nat → Nat} (hf : Marks f) (hft : Ft.MarksT ft) (n c B : Nat) (a : Option Addr) (x : List Nat) (w : World) (hT : OTab w) (l1 : n ≤ 200) (h1 : x.length = n) (hA : BytesAt w B a c x) :
    Calls Tryz.prog 3 #[.slice a n c] w fun e w' => e = .returned (.bool true) ∧ w.grownBy w' none := by
  have i1 : ¬ (n : Int) > 200 := by omega
  have HF := Lib.hid hf
  have HFT := Lib.hid hft
  have H : Hid (OTab w ∧ x.length = n ∧ BytesAt w B a c x ∧ n ≤ 200) := ⟨hT, h1, hA, l1⟩
  clear hf hft hT h1 hA l1
  go_enter Tryz.func3, Tryz.ntmps3
  go_wp2_with fail
  refine (lentB_any HF.out n c B x a w H.out.2.1 H.out.2.2.1 (by omega)).mono ?_
  rintro e w1 ⟨gx, rfl, hg1, hs1, hb1⟩
  have K1 := Lib.hid (And.intro hg1 (And.intro hs1 hb1)); clear hg1 hs1 hb1
  have HL : Hid (∀ w', w1.grownBy w' none → BytesAt w' w'.heap.size (some ⟨gx, 0, none⟩) (n + 12) x ∧ BytesAt w' B a c x ∧ OTab w') := fun w' hg => ⟨lent_bytes (K1.out.2.2.grown hg (by simp)) H.out.2.1 (by have := H.out.2.2.2; omega) H.out.2.2.1.byte, H.out.2.2.1.stay (gb_trans K1.out.1 hg), H.out.1.stay (gb_trans K1.out.1 hg)⟩
  have HM : Hid (∀ w', w1.grownBy w' none → Calls Tryz.prog 8 #[.slice (some ⟨gx, 0, none⟩) n (n + 12)] w' (YB (redR x) w')) := fun w' hg => redG_any n _ _ _ x w' H.out.2.1 (HL.out w' hg).1 (HL.out w' hg).2.2
  have HR : Hid (∀ w', w1.grownBy w' none → Calls Tryz.prog 11 #[.slice a n c] w' (RB (redR x) w')) := fun w' hg => rredG_any n _ _ _ x w' H.out.2.1 (HL.out w' hg).2.1
  have HB : Hid (∀ w', w1.grownBy w' none → Calls Tryz.prog 9 #[.slice (some ⟨gx, 0, none⟩) n (n + 12)] w' (YT (bitsR x) w')) := fun w' hg => bitsG_any n _ _ _ x w' H.out.2.1 (HL.out w' hg).1
  have HC : Hid (∀ w', w1.grownBy w' none → Calls Tryz.prog 15 #[.slice a n c] w' (YT (bitsR x) w')) := fun w' hg => rbitsG_any n _ _ _ x w' H.out.2.1 (HL.out w' hg).2.1
  have HP : Hid (∀ w', w1.grownBy w' none → Calls Tryz.prog 12 #[.slice (some ⟨gx, 0, none⟩) n (n + 12)] w' fun e w'' => e = .returned (.bool (rightR x)) ∧ w'.grownBy w'' none) := fun w' hg => rightG_any n _ _ _ x w' H.out.2.1 (HL.out w' hg).1 (HL.out w' hg).2.2
  have HQ : Hid (∀ w', w1.grownBy w' none → Calls Tryz.prog 13 #[.slice a n c] w' fun e w'' => e = .returned (.bool (rightR x)) ∧ w'.grownBy w'' none) := fun w' hg => rrightG_any n _ _ _ x w' H.out.2.1 (HL.out w' hg).2.1
  obtain ⟨rt, hrt⟩ : ∃ rt, rt = rightR x := ⟨_, rfl⟩
  rw [← hrt] at HP HQ
  clear hrt
  obtain ⟨R, hR⟩ : ∃ R, R = redR x := ⟨_, rfl⟩
  have HRL : Hid (R.length ≤ 32 ∧ ∀ i, R.getD i 0 < 256) := by rw [hR]; exact ⟨redR_len x, redR_lt x⟩
  rw [← hR] at HM HR
  clear hR
  obtain ⟨T, hT⟩ : ∃ T, T = bitsR x := ⟨_, rfl⟩
  have HTL : Hid (T.length ≤ 256) := by rw [hT]; exact bitsR_len x
  rw [← hT] at HB HC
  clear hT
  obtain ⟨rn, hrn⟩ : ∃ rn, rn = R.length := ⟨_, rfl⟩
  have HN := Lib.hid hrn.symm
  obtain ⟨tn, htn⟩ : ∃ tn, tn = T.length := ⟨_, rfl⟩
  have HTN := Lib.hid htn.symm
  go_wp2_with fail
  refine (HM.out w1 (gb_refl _ _)).mono ?_
  intro e w4 h
  obtain ⟨a4, c4, rfl, hg4, ho4⟩ := h
  rw [← hrn] at ho4 ⊢
  have K4 := Lib.hid (And.intro hg4 ho4); clear hg4 ho4
  go_wp2_with fail
  refine (HM.out w4 K4.out.1).mono ?_
  intro e w5 h
  obtain ⟨a5, c5, rfl, hg5, ho5⟩ := h
  rw [← hrn] at ho5 ⊢
  have K5 := Lib.hid (And.intro hg5 (And.intro ho5 (gb_trans K4.out.1 hg5))); clear hg5 ho5 HM
  go_wp2_with fail
  refine (HB.out w5 K5.out.2.2).mono ?_
  intro e w6 h
  obtain ⟨a6, c6, rfl, hg6, ho6⟩ := h
  rw [← htn] at ho6 ⊢
  have K6 := Lib.hid (And.intro hg6 (And.intro ho6 (gb_trans K5.out.2.2 hg6))); clear hg6 ho6
  go_wp2_with fail
  refine (HB.out w6 K6.out.2.2).mono ?_
  intro e w7 h
  obtain ⟨a7, c7, rfl, hg7, ho7⟩ := h
  rw [← htn] at ho7 ⊢
  have K7 := Lib.hid (And.intro hg7 (And.intro ho7 (gb_trans K6.out.2.2 hg7))); clear hg7 ho7 HB
  go_wp2_with fail
  refine (HR.out w7 K7.out.2.2).mono ?_
  intro e w8 h
  obtain ⟨a8, c8, rfl, hg8, ho8⟩ := h
  rw [← hrn]
  have K8 := Lib.hid (And.intro hg8 (And.intro ho8 (gb_trans K7.out.2.2 hg8))); clear hg8 ho8 HR
  have h48 : w4.grownBy w8 none := gb_trans K5.out.1 (gb_trans K6.out.1 (gb_trans K7.out.1 K8.out.1))
  have hy4 : BytesAt w8 w4.heap.size a4 c4 R := by
    have h := K4.out.2
    rw [hrn] at h
    exact (YB.bytes HRL.out.2 h).stay h48
  have hsm := sameBytes_any w4.heap.size w8.heap.size rn rn c4 c8 a4 a8 R R w8 hrn.symm hrn.symm hy4 K8.out.2.1
  rw [decide_eq_true rfl] at hsm
  have HS := Lib.hid hsm
  clear hsm hy4 hrn h48
  go_wp2_with fail
  refine HS.out.mono ?_
  rintro e w9 ⟨rfl, hg9⟩
  have K9 := Lib.hid (And.intro hg9 (gb_trans K8.out.2.2 hg9)); clear hg9 HS
  go_wp2_with fail
  refine (HP.out w9 K9.out.2).mono ?_
  rintro e w10 ⟨rfl, hg10⟩
  have K10 := Lib.hid (And.intro hg10 (gb_trans K9.out.2 hg10)); clear hg10 HP
  go_wp2_with fail
  refine (HQ.out w10 K10.out.2).mono ?_
  rintro e w11 ⟨rfl, hg11⟩
  have K11 := Lib.hid (And.intro hg11 (gb_trans K10.out.2 hg11)); clear hg11 HQ
  go_wp2_with fail
  refine (HC.out w11 K11.out.2).mono ?_
  intro e w12 h
  obtain ⟨a12, c12, rfl, hg12, ho12⟩ := h
  rw [← htn] at ho12 ⊢
  have h612 : w6.grownBy w12 none := gb_trans K7.out.1 (gb_trans K8.out.1 (gb_trans K9.out.1 (gb_trans K10.out.1 (gb_trans K11.out.1 hg12))))
  have htn3 := HTL.out
  have hst := sameT_any tn c6 c12 _ _ a6 a12 T w12 (by omega) htn.symm (own_kept K6.out.2.1 h612) ho12
  have HS := Lib.hid hst
  have K12 := Lib.hid (And.intro hg12 (gb_trans K11.out.2 hg12))
  clear hst hg12 ho12 htn h612 htn3 HC
  go_wp2_with fail
  refine HS.out.mono ?_
  rintro e w13 ⟨rfl, hg13⟩
  have K13 := Lib.hid (And.intro hg13 (gb_trans K12.out.2 hg13)); clear hg13 HS
  go_wp2_with fail
  refine (keptB_any HF.out n c B gx x a w13 H.out.2.1 (HL.out w13 K13.out.2).2.1 (by omega) (K1.out.2.2.grown K13.out.2 (by simp))).mono ?_
  rintro e w14 ⟨rfl, hg14⟩
  have h114 := gb_trans K13.out.2 hg14
  have h714 : w7.grownBy w14 none := gb_trans K8.out.1 (gb_trans K9.out.1 (gb_trans K10.out.1 (gb_trans K11.out.1 (gb_trans K12.out.1 (gb_trans K13.out.1 hg14)))))
  have h614 := gb_trans K7.out.1 h714
  have h514 := gb_trans K6.out.1 h614
  have h414 := gb_trans K5.out.1 h514
  have sz0 := K1.out.1.size
  have o4 : w14.ownsRow w.heap.size 5 1 (.slice a4 rn c4) rn (R.map u8N) := own_down (own_kept K4.out.2 h414) sz0
  have o5 : w14.ownsRow w.heap.size 5 1 (.slice a5 rn c5) rn (R.map u8N) := own_down (own_kept K5.out.2.1 h514) (Nat.le_trans sz0 K4.out.1.size)
  have o6 := own_kept K6.out.2.1 h614
  have o7 := own_kept K7.out.2.1 h714
  have sz1 := K1.out.2.1
  have sz2 := K1.out.2.2.lt
  have ox := lent_own (K1.out.2.2.grown h114 (by simp)) H.out.2.1 (show w.heap.size ≤ gx by omega) (by have := H.out.2.2.2; omega)
  have b4 : Br (a4, rn, c4, R.map u8N) w1.heap.size w4.heap.size := fun g e => K4.out.2.lt g e
  have b5 : Br (a5, rn, c5, R.map u8N) w4.heap.size w5.heap.size := fun g e => K5.out.2.1.lt g e
  have bx := br_lent gx n (n + 12) (x.map u8N)
  have hrl := HRL.out.1
  have hnn := HN.out
  have hn3 := H.out.2.2.2
  have hO := outs_lit w14 w.heap.size 3 [(a4, rn, c4, R.map u8N), (a5, rn, c5, R.map u8N), (some ⟨gx, 0, none⟩, n, n + 12, x.map u8N)] rfl
    (fun p hp => by
      simp only [List.mem_cons, List.not_mem_nil, or_false] at hp
      rcases hp with rfl | rfl | rfl
      · exact ⟨o4, by show rn ≤ _; omega⟩
      · exact ⟨o5, by show rn ≤ _; omega⟩
      · exact ⟨ox, by show n ≤ _; omega⟩)
    (by
      have hs4 := K4.out.1.size
      have d1 := fun q (hq : q ∈ [(a5, rn, c5, R.map u8N), (some (⟨gx, 0, none⟩ : Addr), n, n + 12, x.map u8N)]) => (by
        simp only [List.mem_cons, List.not_mem_nil, or_false] at hq
        rcases hq with rfl | rfl
        · exact br_apart b4 b5 (by omega)
        · exact br_apart b4 bx (by omega) : (rv (a4, rn, c4, R.map u8N)).ownBlock = none ∨ (rv (a4, rn, c4, R.map u8N)).ownBlock ≠ (rv q).ownBlock)
      have d2 := fun q (hq : q ∈ [(some (⟨gx, 0, none⟩ : Addr), n, n + 12, x.map u8N)]) => (by
        simp only [List.mem_cons, List.not_mem_nil, or_false] at hq
        rcases hq with rfl
        exact br_apart b5 bx (by omega) : (rv (a5, rn, c5, R.map u8N)).ownBlock = none ∨ (rv (a5, rn, c5, R.map u8N)).ownBlock ≠ (rv q).ownBlock)
      exact List.pairwise_cons.2 ⟨d1, List.pairwise_cons.2 ⟨d2, List.pairwise_cons.2 ⟨fun q hq => (by cases hq), List.Pairwise.nil⟩⟩⟩)
    (gb_trans K1.out.1 h114).size (by decide)
  have hap := apart_all_kb HF.out w _ _ w.heap.size _ hO (Nat.le_refl _) (gb_alloc (gb_trans K1.out.1 h114) _) (by simp) (by simp)
  have hap' : Calls Tryz.prog 17 #[.slice (some ⟨w14.heap.size, 0, none⟩) 3 3] (w14.alloc (.cells #[.slice a4 rn c4, .slice a5 rn c5, .slice (some ⟨gx, 0, none⟩) n (n + 12)] 22)) fun e w' => e = .returned (.bool true) ∧ w.grownBy w' none ∧ w'.ownsRow w.heap.size 4 1 (.slice a6 tn c6) tn (T.map .bool) ∧ w'.ownsRow w.heap.size 4 1 (.slice a7 tn c7) tn (T.map .bool) := by
    refine hap.mono fun e w' h => ⟨h.1, h.2.1, ?_, ?_⟩
    all_goals
      have hga := World.grownBy_alloc w14 (.cells #[.slice a4 rn c4, .slice a5 rn c5, .slice (some ⟨gx, 0, none⟩) n (n + 12)] 22) none
    · have oo := own_kept o6 hga
      refine own_down (own_same oo fun g e => ?_) (Nat.le_trans sz0 K5.out.2.2.size)
      have l6 := K6.out.2.1.lt g e
      exact h.2.2.2 g (oo.lt g e).2 (fun p hp e2 => by
        simp only [List.mem_cons, List.not_mem_nil, or_false] at hp
        have hs4 := K4.out.1.size
        have hs5 := K5.out.1.size
        rcases hp with rfl | rfl | rfl
        · have := b4 g e2; omega
        · have := b5 g e2; omega
        · have := bx g e2; omega)
    · have oo := own_kept o7 hga
      refine own_down (own_same oo fun g e => ?_) (Nat.le_trans sz0 K6.out.2.2.size)
      have l6 := K7.out.2.1.lt g e
      exact h.2.2.2 g (oo.lt g e).2 (fun p hp e2 => by
        simp only [List.mem_cons, List.not_mem_nil, or_false] at hp
        have hs4 := K4.out.1.size
        have hs5 := K5.out.1.size
        have hs6 := K6.out.1.size
        rcases hp with rfl | rfl | rfl
        · have := b4 g e2; omega
        · have := b5 g e2; omega
        · have := bx g e2; omega)
  have HAP := Lib.hid hap'
  have d67 : (Value.slice a6 tn c6).ownBlock = none ∨ (Value.slice a6 tn c6).ownBlock ≠ (Value.slice a7 tn c7).ownBlock := by
    cases h6 : (Value.slice a6 tn c6).ownBlock with
    | none => exact Or.inl rfl
    | some g => exact Or.inr fun e => by have := K6.out.2.1.lt g h6; have := K7.out.2.1.lt g e.symm; omega
  have HD := Lib.hid d67
  clear hg14 h114 h714 h614 h514 h414 sz0 o4 o5 o6 o7 sz1 sz2 ox b4 b5 bx hrl hnn hn3 hO hap hap' d67
  go_wp2_with fail
  refine HAP.out.mono ?_
  rintro e w15 ⟨rfl, hg15, ho6, ho7⟩
  have htn3 := HTL.out
  have htn2 := HTN.out
  have hat := Ft.apart2 HFT.out w w15 _ _ w.heap.size tn tn _ _ (Nat.le_refl _) hg15 ho6 ho7 HD.out ⟨by omega, by omega⟩
  have HAT := Lib.hid hat
  clear hg15 ho6 ho7 htn3 htn2 hat HAP
  go_wp2_with fail
  refine HAT.out.mono ?_
  rintro e w16 ⟨rfl, hg16⟩
  have G16 := Lib.hid hg16; clear hg16 HAT
  go_wp2_with fail
  refine (awake_any w16 (H.out.1.stay G16.out)).mono ?_
  rintro e w17 ⟨rfl, hg17⟩
  have G17 := Lib.hid (gb_trans G16.out hg17); clear hg17
  go_wp2
  go_ret
  exact ⟨rfl, G17.out⟩
theorem reds_any {f ft : Nat → Nat → Nat} (hf : Marks f) (hft : Ft.MarksT ft) (n c B : Nat) (a : Option Addr) (x : List Nat) (w : World) (hT : OTab w) (h1 : x.length = n) (hA : BytesAt w B a c x) :
    Calls Tryz.prog 3 #[.slice a n c] w fun e w' => e = .returned (.bool true) ∧ w.grownBy w' none := by
  by_cases h : n ≤ 200
  · exact reds_small hf hft n c B a x w hT h h1 hA
  · exact reds_great n c a w hT (by omega)
end Sr
end Go.Proofs.YtmnlidfalhjghaaGreatDoor

/- The law on what any three are multiplied and added to, walked. -/
namespace Go.Proofs.YtmnlidfalhjghaaGreatDoor
open Go.RowKit Ow
namespace Sr
set_option linter.unusedSimpArgs false
theorem muls_great (n1 n2 n3 c1 c2 c3 : Nat) (a1 a2 a3 : Option Addr) (w : World) (hT : OTab w) (h : ¬ (n1 ≤ 100 ∧ n2 ≤ 100 ∧ n3 ≤ 100)) :
    Calls Tryz.prog 4 #[.slice a1 n1 c1, .slice a2 n2 c2, .slice a3 n3 c3] w fun e w' => e = .returned (.bool true) ∧ w.grownBy w' none := by
  have HW := Lib.hid (awake_any w hT); clear hT
  by_cases h1 : n1 ≤ 100
  · have i1 : ¬ (n1 : Int) > 100 := by omega
    by_cases h2 : n2 ≤ 100
    · have i2 : ¬ (n2 : Int) > 100 := by omega
      have i3 : (n3 : Int) > 100 := by omega
      clear h h1 h2
      go_enter Tryz.func4, Tryz.ntmps4
      go_wp2_with fail
      refine HW.out.mono ?_
      rintro e w1 ⟨rfl, hg1⟩
      have HG := Lib.hid hg1; clear hg1 HW
      go_wp2
      go_ret
      exact ⟨rfl, HG.out⟩
    · have i3 : (n2 : Int) > 100 := by omega
      clear h h1 h2
      go_enter Tryz.func4, Tryz.ntmps4
      go_wp2_with fail
      refine HW.out.mono ?_
      rintro e w1 ⟨rfl, hg1⟩
      have HG := Lib.hid hg1; clear hg1 HW
      go_wp2
      go_ret
      exact ⟨rfl, HG.out⟩
  · have i3 : (n1 : Int) > 100 := by omega
    clear h h1
    go_enter Tryz.func4, Tryz.ntmps4
    go_wp2_with fail
    refine HW.out.mono ?_
    rintro e w1 ⟨rfl, hg1⟩
    have HG := Lib.hid hg1; clear hg1 HW
    go_wp2
    go_ret
    exact ⟨rfl, HG.out⟩
set_option maxRecDepth 100000 in
set_option maxHeartbeats 4000000 in
theorem muls_small {f : Nat → Nat → Nat} (hf : Marks f) (n1 n2 n3 c1 c2 c3 B1 B2 B3 : Nat) (a1 a2 a3 : Option Addr) (x y z : List Nat) (w : World) (hT : OTab w) (l1 : n1 ≤ 100) (l2 : n2 ≤ 100) (l3 : n3 ≤ 100)
    (h1 : x.length = n1) (h2 : y.length = n2) (h3 : z.length = n3) (hA : BytesAt w B1 a1 c1 x) (hB : BytesAt w B2 a2 c2 y) (hC : BytesAt w B3 a3 c3 z) :
    Calls Tryz.prog 4 #[.slice a1 n1 c1, .slice a2 n2 c2, .slice a3 n3 c3] w fun e w' => e = .returned (.bool true) ∧ w.grownBy w' none := by
  have i1 : ¬ (n1 : Int) > 100 := by omega
  have i2 : ¬ (n2 : Int) > 100 := by omega
  have i3 : ¬ (n3 : Int) > 100 := by omega
  have HF := Lib.hid hf
  have H : Hid (OTab w ∧ (x.length = n1 ∧ y.length = n2 ∧ z.length = n3) ∧ (BytesAt w B1 a1 c1 x ∧ BytesAt w B2 a2 c2 y ∧ BytesAt w B3 a3 c3 z) ∧ (n1 ≤ 100 ∧ n2 ≤ 100 ∧ n3 ≤ 100)) := ⟨hT, ⟨h1, h2, h3⟩, ⟨hA, hB, hC⟩, ⟨l1, l2, l3⟩⟩
  clear hf hT h1 h2 h3 hA hB hC l1 l2 l3
  go_enter Tryz.func4, Tryz.ntmps4
  go_wp2_with fail
  refine (lentB_any HF.out n1 c1 B1 x a1 w H.out.2.1.1 H.out.2.2.1.1 (by omega)).mono ?_
  rintro e w1 ⟨gx, rfl, hg1, hs1, hb1⟩
  have K1 := Lib.hid (And.intro hg1 (And.intro hs1 hb1)); clear hg1 hs1 hb1
  go_wp2_with fail
  refine (lentB_any HF.out n2 c2 B2 y a2 w1 H.out.2.1.2.1 (H.out.2.2.1.2.1.stay K1.out.1) (by omega)).mono ?_
  rintro e w2 ⟨gy, rfl, hg2, hs2, hb2⟩
  have K2 := Lib.hid (And.intro hg2 (And.intro hs2 hb2)); clear hg2 hs2 hb2
  go_wp2_with fail
  refine (lentB_any HF.out n3 c3 B3 z a3 w2 H.out.2.1.2.2 (H.out.2.2.1.2.2.stay (gb_trans K1.out.1 K2.out.1)) (by omega)).mono ?_
  rintro e w3 ⟨gz, rfl, hg3, hs3, hb3⟩
  have K3 := Lib.hid (And.intro hg3 (And.intro hs3 hb3)); clear hg3 hs3 hb3
  have hg13 := gb_trans K2.out.1 K3.out.1
  have hg03 := gb_trans K1.out.1 hg13
  have hbx := K1.out.2.2.grown hg13 (by simp)
  have hby := K2.out.2.2.grown K3.out.1 (by simp)
  have M := Lib.hid (And.intro hg03 (And.intro hbx (And.intro hby (And.intro K3.out.2.2 (And.intro K1.out.2.1 (And.intro (Nat.lt_of_lt_of_le K1.out.2.2.lt (Nat.le_refl _)) (And.intro K2.out.2.1 (And.intro K2.out.2.2.lt (And.intro K3.out.2.1 K3.out.2.2.lt)))))))))
  clear hg13 hg03 hbx hby K1 K2 K3
  have HM : Hid (∀ w', w3.grownBy w' none → Calls Tryz.prog 19 #[.slice (some ⟨gx, 0, none⟩) n1 (n1 + 12), .slice (some ⟨gy, 0, none⟩) n2 (n2 + 12), .slice (some ⟨gz, 0, none⟩) n3 (n3 + 12)] w' (YB (mulR x y z) w')) := fun w' hg =>
    mulG_any n1 n2 n3 _ _ _ _ _ _ _ _ _ x y z w' H.out.2.1.1 H.out.2.1.2.1 H.out.2.1.2.2 (lent_bytes (M.out.2.1.grown hg (by simp)) H.out.2.1.1 (by have := H.out.2.2.2; omega) H.out.2.2.1.1.byte) (lent_bytes (M.out.2.2.1.grown hg (by simp)) H.out.2.1.2.1 (by have := H.out.2.2.2; omega) H.out.2.2.1.2.1.byte) (lent_bytes (M.out.2.2.2.1.grown hg (by simp)) H.out.2.1.2.2 (by have := H.out.2.2.2; omega) H.out.2.2.1.2.2.byte) (H.out.1.stay (gb_trans M.out.1 hg))
  have HR : Hid (∀ w', w3.grownBy w' none → Calls Tryz.prog 20 #[.slice a1 n1 c1, .slice a2 n2 c2, .slice a3 n3 c3] w' (RB (mulR x y z) w')) := fun w' hg =>
    rmulG_any n1 n2 n3 _ _ _ _ _ _ _ _ _ x y z w' H.out.2.1.1 H.out.2.1.2.1 H.out.2.1.2.2 (H.out.2.2.1.1.stay (gb_trans M.out.1 hg)) (H.out.2.2.1.2.1.stay (gb_trans M.out.1 hg)) (H.out.2.2.1.2.2.stay (gb_trans M.out.1 hg))
  obtain ⟨R, hR⟩ : ∃ R, R = mulR x y z := ⟨_, rfl⟩
  have HRL : Hid (R.length ≤ 32 ∧ ∀ i, R.getD i 0 < 256) := by rw [hR]; exact ⟨mulR_len x y z, mulR_lt x y z⟩
  rw [← hR] at HM HR
  clear hR
  obtain ⟨rn, hrn⟩ : ∃ rn, rn = R.length := ⟨_, rfl⟩
  have HN := Lib.hid hrn.symm
  go_wp2_with fail
  refine (HM.out w3 (gb_refl _ _)).mono ?_
  intro e w4 h
  obtain ⟨a4, c4, rfl, hg4, ho4⟩ := h
  rw [← hrn] at ho4 ⊢
  have K4 := Lib.hid (And.intro hg4 ho4); clear hg4 ho4
  go_wp2_with fail
  refine (HM.out w4 K4.out.1).mono ?_
  intro e w5 h
  obtain ⟨a5, c5, rfl, hg5, ho5⟩ := h
  rw [← hrn] at ho5 ⊢
  have K5 := Lib.hid (And.intro hg5 ho5); clear hg5 ho5 HM
  go_wp2_with fail
  refine (HR.out w5 (gb_trans K4.out.1 K5.out.1)).mono ?_
  intro e w6 h
  obtain ⟨a6, c6, rfl, hg6, ho6⟩ := h
  rw [← hrn]
  have K6 := Lib.hid (And.intro hg6 ho6); clear hg6 ho6 HR
  have h46 := gb_trans K5.out.1 K6.out.1
  have hy4 : BytesAt w6 w4.heap.size a4 c4 R := by
    have h := K4.out.2
    rw [hrn] at h
    exact (YB.bytes HRL.out.2 h).stay h46
  have hsm := sameBytes_any w4.heap.size w6.heap.size rn rn c4 c6 a4 a6 R R w6 hrn.symm hrn.symm hy4 K6.out.2
  rw [decide_eq_true rfl] at hsm
  have HS := Lib.hid hsm
  clear hsm hy4 hrn
  go_wp2_with fail
  refine HS.out.mono ?_
  rintro e w7 ⟨rfl, hg7⟩
  have h37 := gb_trans (gb_trans K4.out.1 h46) hg7
  have K7 := Lib.hid hg7
  have G7 := Lib.hid (And.intro h37 (gb_trans h46 hg7)); clear h37 h46 hg7 HS
  go_wp2_with fail
  refine (keptB_any HF.out n1 c1 B1 gx x a1 w7 H.out.2.1.1 (H.out.2.2.1.1.stay (gb_trans M.out.1 G7.out.1)) (by omega) (M.out.2.1.grown G7.out.1 (by simp))).mono ?_
  rintro e w8 ⟨rfl, hg8⟩
  have G8 := Lib.hid (gb_trans G7.out.1 hg8)
  have N8 := Lib.hid hg8; clear hg8
  go_wp2_with fail
  refine (keptB_any HF.out n2 c2 B2 gy y a2 w8 H.out.2.1.2.1 (H.out.2.2.1.2.1.stay (gb_trans M.out.1 G8.out)) (by omega) (M.out.2.2.1.grown G8.out (by simp))).mono ?_
  rintro e w9 ⟨rfl, hg9⟩
  have G9 := Lib.hid (gb_trans G8.out hg9)
  have N9 := Lib.hid (gb_trans N8.out hg9); clear hg9
  go_wp2_with fail
  refine (keptB_any HF.out n3 c3 B3 gz z a3 w9 H.out.2.1.2.2 (H.out.2.2.1.2.2.stay (gb_trans M.out.1 G9.out)) (by omega) (M.out.2.2.2.1.grown G9.out (by simp))).mono ?_
  rintro e w10 ⟨rfl, hg10⟩
  have h310 := gb_trans G9.out hg10
  have h410 := gb_trans G7.out.2 (gb_trans N9.out hg10)
  have h510 : w5.grownBy w10 none := by
    have h57 : w5.grownBy w7 none := gb_trans K6.out.1 K7.out
    exact gb_trans h57 (gb_trans N9.out hg10)
  have o4 : w10.ownsRow w.heap.size 5 1 (.slice a4 rn c4) rn (R.map u8N) := own_down (own_kept K4.out.2 h410) M.out.1.size
  have o5 : w10.ownsRow w.heap.size 5 1 (.slice a5 rn c5) rn (R.map u8N) := own_down (own_kept K5.out.2 h510) (Nat.le_trans M.out.1.size K4.out.1.size)
  have sz1 := M.out.2.2.2.2.1
  have sz2 := M.out.2.2.2.2.2.1
  have sz3 := M.out.2.2.2.2.2.2.1
  have sz4 := M.out.2.2.2.2.2.2.2.1
  have sz5 := M.out.2.2.2.2.2.2.2.2.1
  have sz6 := M.out.2.2.2.2.2.2.2.2.2
  have ox := lent_own (M.out.2.1.grown h310 (by simp)) H.out.2.1.1 (show w.heap.size ≤ gx by omega) (by have := H.out.2.2.2; omega)
  have oy := lent_own (M.out.2.2.1.grown h310 (by simp)) H.out.2.1.2.1 (show w.heap.size ≤ gy by omega) (by have := H.out.2.2.2; omega)
  have oz := lent_own (M.out.2.2.2.1.grown h310 (by simp)) H.out.2.1.2.2 (show w.heap.size ≤ gz by omega) (by have := H.out.2.2.2; omega)
  have b4 : Br (a4, rn, c4, R.map u8N) w3.heap.size w4.heap.size := fun g e => K4.out.2.lt g e
  have b5 : Br (a5, rn, c5, R.map u8N) w4.heap.size w5.heap.size := fun g e => K5.out.2.lt g e
  have bx := br_lent gx n1 (n1 + 12) (x.map u8N)
  have by' := br_lent gy n2 (n2 + 12) (y.map u8N)
  have bz := br_lent gz n3 (n3 + 12) (z.map u8N)
  have hrl := HRL.out.1
  have hnn := HN.out
  have hn3 := H.out.2.2.2
  have hO := outs_lit w10 w.heap.size 5 [(a4, rn, c4, R.map u8N), (a5, rn, c5, R.map u8N), (some ⟨gx, 0, none⟩, n1, n1 + 12, x.map u8N), (some ⟨gy, 0, none⟩, n2, n2 + 12, y.map u8N), (some ⟨gz, 0, none⟩, n3, n3 + 12, z.map u8N)] rfl
    (fun p hp => by
      simp only [List.mem_cons, List.not_mem_nil, or_false] at hp
      rcases hp with rfl | rfl | rfl | rfl | rfl
      · exact ⟨o4, by show rn ≤ _; omega⟩
      · exact ⟨o5, by show rn ≤ _; omega⟩
      · exact ⟨ox, by show n1 ≤ _; omega⟩
      · exact ⟨oy, by show n2 ≤ _; omega⟩
      · exact ⟨oz, by show n3 ≤ _; omega⟩)
    (by
      have d1 := fun q (hq : q ∈ [(a5, rn, c5, R.map u8N), (some (⟨gx, 0, none⟩ : Addr), n1, n1 + 12, x.map u8N), (some ⟨gy, 0, none⟩, n2, n2 + 12, y.map u8N), (some ⟨gz, 0, none⟩, n3, n3 + 12, z.map u8N)]) => (by
        simp only [List.mem_cons, List.not_mem_nil, or_false] at hq
        rcases hq with rfl | rfl | rfl | rfl
        · exact br_apart b4 b5 (by omega)
        · exact br_apart b4 bx (by omega)
        · exact br_apart b4 by' (by omega)
        · exact br_apart b4 bz (by omega) : (rv (a4, rn, c4, R.map u8N)).ownBlock = none ∨ (rv (a4, rn, c4, R.map u8N)).ownBlock ≠ (rv q).ownBlock)
      have hs4 := K4.out.1.size
      have d2 := fun q (hq : q ∈ [(some (⟨gx, 0, none⟩ : Addr), n1, n1 + 12, x.map u8N), (some ⟨gy, 0, none⟩, n2, n2 + 12, y.map u8N), (some ⟨gz, 0, none⟩, n3, n3 + 12, z.map u8N)]) => (by
        simp only [List.mem_cons, List.not_mem_nil, or_false] at hq
        rcases hq with rfl | rfl | rfl
        · exact br_apart b5 bx (by omega)
        · exact br_apart b5 by' (by omega)
        · exact br_apart b5 bz (by omega) : (rv (a5, rn, c5, R.map u8N)).ownBlock = none ∨ (rv (a5, rn, c5, R.map u8N)).ownBlock ≠ (rv q).ownBlock)
      have d3 := fun q (hq : q ∈ [(some (⟨gy, 0, none⟩ : Addr), n2, n2 + 12, y.map u8N), (some ⟨gz, 0, none⟩, n3, n3 + 12, z.map u8N)]) => (by
        simp only [List.mem_cons, List.not_mem_nil, or_false] at hq
        rcases hq with rfl | rfl
        · exact br_apart bx by' (by omega)
        · exact br_apart bx bz (by omega) : (rv (some ⟨gx, 0, none⟩, n1, n1 + 12, x.map u8N)).ownBlock = none ∨ (rv (some ⟨gx, 0, none⟩, n1, n1 + 12, x.map u8N)).ownBlock ≠ (rv q).ownBlock)
      have d4 := fun q (hq : q ∈ [(some (⟨gz, 0, none⟩ : Addr), n3, n3 + 12, z.map u8N)]) => (by
        simp only [List.mem_cons, List.not_mem_nil, or_false] at hq
        rcases hq with rfl
        exact br_apart by' bz (by omega) : (rv (some ⟨gy, 0, none⟩, n2, n2 + 12, y.map u8N)).ownBlock = none ∨ (rv (some ⟨gy, 0, none⟩, n2, n2 + 12, y.map u8N)).ownBlock ≠ (rv q).ownBlock)
      exact List.pairwise_cons.2 ⟨d1, List.pairwise_cons.2 ⟨d2, List.pairwise_cons.2 ⟨d3, List.pairwise_cons.2 ⟨d4, List.pairwise_cons.2 ⟨fun q hq => (by cases hq), List.Pairwise.nil⟩⟩⟩⟩⟩)
    (gb_trans M.out.1 h310).size (by decide)
  have hap := apart_all HF.out w _ _ w.heap.size _ hO (Nat.le_refl _) (gb_alloc (gb_trans M.out.1 h310) _) (by simp) (by simp)
  have hap' : Calls Tryz.prog 17 #[.slice (some ⟨w10.heap.size, 0, none⟩) 5 5] (w10.alloc (.cells #[.slice a4 rn c4, .slice a5 rn c5, .slice (some ⟨gx, 0, none⟩) n1 (n1 + 12), .slice (some ⟨gy, 0, none⟩) n2 (n2 + 12), .slice (some ⟨gz, 0, none⟩) n3 (n3 + 12)] 22)) fun e w' => e = .returned (.bool true) ∧ w.grownBy w' none := hap
  have HAP := Lib.hid hap'
  clear hg10 h310 h410 h510 o4 o5 sz1 sz2 sz3 sz4 sz5 sz6 ox oy oz b4 b5 bx by' bz hrl hnn hn3 hO hap hap'
  go_wp2_with fail
  refine HAP.out.mono ?_
  rintro e w11 ⟨rfl, hg11⟩
  have G11 := Lib.hid hg11; clear hg11
  go_wp2_with fail
  refine (awake_any w11 (H.out.1.stay G11.out)).mono ?_
  rintro e w12 ⟨rfl, hg12⟩
  have G12 := Lib.hid (gb_trans G11.out hg12); clear hg12
  go_wp2
  go_ret
  exact ⟨rfl, G12.out⟩
theorem muls_any {f : Nat → Nat → Nat} (hf : Marks f) (n1 n2 n3 c1 c2 c3 B1 B2 B3 : Nat) (a1 a2 a3 : Option Addr) (x y z : List Nat) (w : World) (hT : OTab w)
    (h1 : x.length = n1) (h2 : y.length = n2) (h3 : z.length = n3) (hA : BytesAt w B1 a1 c1 x) (hB : BytesAt w B2 a2 c2 y) (hC : BytesAt w B3 a3 c3 z) :
    Calls Tryz.prog 4 #[.slice a1 n1 c1, .slice a2 n2 c2, .slice a3 n3 c3] w fun e w' => e = .returned (.bool true) ∧ w.grownBy w' none := by
  by_cases h : n1 ≤ 100 ∧ n2 ≤ 100 ∧ n3 ≤ 100
  · exact muls_small hf n1 n2 n3 c1 c2 c3 B1 B2 B3 a1 a2 a3 x y z w hT h.1 h.2.1 h.2.2 h1 h2 h3 hA hB hC
  · exact muls_great n1 n2 n3 c1 c2 c3 a1 a2 a3 w hT h
end Sr
end Go.Proofs.YtmnlidfalhjghaaGreatDoor

/- A law's arguments: slices of bytes, numbers. -/
namespace Go.Proofs.YtmnlidfalhjghaaGreatDoor
open Go.ChangeShapes Go.WideShapes Go.ChangeAt Go.RowKit Ow

theorem laidMet_tail {P : Program} {x : String × DataW Unit} {rest : List (String × DataW Unit)} {W : World} (h : laidMet P (x :: rest) W) : laidMet P rest W := by
  obtain ⟨ps, ⟨g, t, cs, fuel, p, q, _, _, _, _, hq, rfl⟩, hn, hc⟩ := h
  exact ⟨q, hq, (List.nodup_append.1 hn).2.1, fun b off hm => hc b off (List.mem_append_right _ hm)⟩
theorem own : ownKnob Tryz.prog.godebug = none := by kernel_rfl
theorem laidOut : laidOutB Tryz.prog = true := by kernel_rfl
/-- a list of integers as natural numbers -/
def nats (l : List Int) : List Nat := l.map Int.toNat
theorem bytes_arg {W : World} {x : Addr} {len cap : Nat} {zs : List Int} (ht : cap < 9223372036854775808) (hl : len ≤ cap) (hz : zs.length = cap) (hcell : ∀ i, i < zs.length → W.cell? (x.add i) = some (.int .u8 (zs.getD i 0))) (hw : ∀ n ∈ zs, (Lit.int .u8 n).wf = true) :
    BytesAt W W.heap.size (some x) cap (nats (zs.take len)) ∧ (nats (zs.take len)).length = len := by
  have hlen : (nats (zs.take len)).length = len := by simp [nats, hz]; omega
  have hbd : ∀ n ∈ zs, 0 ≤ n ∧ n < 256 := fun n hn => by
    have := hw n hn
    simp [Lit.wf, IntKind.min, IntKind.max, IntKind.signed, IntKind.bits] at this
    omega
  have hget : ∀ i, i < len → (((nats (zs.take len)).getD i 0 : Nat) : Int) = zs.getD i 0 := fun i hi => by
    have h1 : i < zs.length := by omega
    have := hbd zs[i] (List.getElem_mem h1)
    rw [List.getD_eq_getElem?_getD, List.getD_eq_getElem?_getD]
    unfold nats
    rw [List.getElem?_map, List.getElem?_take, if_pos hi, List.getElem?_eq_getElem h1]
    simp; omega
  refine ⟨⟨Nat.le_refl _, by omega, ht, fun i => ?_, ?_⟩, hlen⟩
  · by_cases hi : i < len
    · have h1 : i < zs.length := by omega
      have := hbd zs[i] (List.getElem_mem h1)
      have h2 := hget i hi
      rw [List.getD_eq_getElem?_getD (l := zs), List.getElem?_eq_getElem h1] at h2
      simp only [Option.getD_some] at h2
      omega
    · rw [List.getD_eq_getElem?_getD, List.getElem?_eq_none (by omega)]; decide
  · by_cases h0 : len = 0
    · exact Or.inl (by omega)
    · obtain ⟨b, off, spot⟩ := x
      have hc := hcell 0 (by omega)
      have hspot : spot = none := by simpa [Addr.add] using World.cell?_spot hc
      subst hspot
      have hadd : ∀ j, (⟨b, off, none⟩ : Addr).add j = ⟨b, off + j, none⟩ := fun j => by unfold Addr.add; split <;> simp_all
      have hlt : b < W.heap.size := block_lt_of_cell hc
      refine Or.inr ⟨b, off, rfl, hlt, fun i hi => ?_⟩
      rw [hlen] at hi
      have h3 := hcell i (by omega)
      rw [hadd, ← hget i hi] at h3
      exact h3

/-- an argument that is a slice of bytes -/
theorem bytes_open {H : Type} {enc : TypeId × Value → H} {W : World} {a : Option Addr} {len cap : Nat} {d : DataW H} {ps : List MemPlace} (h : DataW.Trod enc Tryz.prog W 0 (fun _ => true) true 22 (.slice a len cap) d ps) :
    ∃ p, p.length = len ∧ BytesAt W W.heap.size a cap p := by
  obtain ⟨fuel, hf⟩ := h
  rcases open_ints Tryz.underlying22 Tryz.underlying5 (by kernel_rfl) hf with ⟨hcs, _⟩ | ⟨x, l, c, zs, hcs, _, hl, hm, hz, _, hcell, hwz⟩
  · simp [Value.cells] at hcs
    obtain ⟨rfl, rfl, rfl⟩ := hcs
    exact ⟨[], rfl, ⟨Nat.le_refl _, Nat.le_refl _, by decide, by simp, Or.inl rfl⟩⟩
  · simp [Value.cells] at hcs
    obtain ⟨rfl, rfl, rfl⟩ := hcs
    unfold maxLen at hm
    have hb := bytes_arg (by omega) hl (by simpa using hz) hcell hwz
    exact ⟨_, hb.2, hb.1⟩
/-- how great it may be -/
theorem bytes_reach {H : Type} {enc : TypeId × Value → H} {W : World} {a : Option Addr} {len cap : Nat} {d : DataW H} {ps : List MemPlace} {ts : List TypeId} {ds : List (DataW H)} (h : DataW.Trod enc Tryz.prog W 0 (fun _ => true) true 22 (.slice a len cap) d ps)
    (hsz : (DataW.weightsEach Tryz.prog ts ds).all (· ≤ reachBytes) = true) {j : Nat} (ht : ts[j]? = some 22) (hd : ds[j]? = some d) : len ≤ cap ∧ cap ≤ 140737488351232 := by
  obtain ⟨fuel, hf⟩ := h
  rcases open_ints Tryz.underlying22 Tryz.underlying5 (by kernel_rfl) hf with ⟨hcs, _⟩ | ⟨x, l, c, zs, hcs, _, hl, _, hz, hx, _, _⟩
  · simp [Value.cells] at hcs
    obtain ⟨rfl, rfl, rfl⟩ := hcs
    exact ⟨Nat.le_refl _, by decide⟩
  · simp [Value.cells] at hcs
    obtain ⟨rfl, rfl, rfl⟩ := hcs
    have hz2 : zs.length = cap := by simpa using hz
    simp only [Prod.mk.injEq] at hx
    rw [hx.1] at hd
    have := sized_slice hsz ht hd Tryz.underlying22
    rw [show Tryz.prog.bytesOf 5 = 1 by kernel_rfl] at this
    simp only [lits, List.length_map, List.length_take, List.length_drop, reachBytes] at this
    omega
theorem int_wf {n : Int} (h : (Lit.int .i64 n).wf = true) : -9223372036854775808 ≤ n ∧ n ≤ 9223372036854775807 := by
  simp [Lit.wf, IntKind.min, IntKind.max, IntKind.signed, IntKind.bits] at h
  omega
end Go.Proofs.YtmnlidfalhjghaaGreatDoor

/- scalar: what the rows' lists give: the order's four words. -/
namespace Go.Proofs.YtmnlidfalhjghaaGreatDoor
open Go.ChangeShapes Go.WideShapes Go.ChangeAt Go.RowKit Ow

def listO : List Int := [6346243789798364141, 1503914060200516822, 0, 1152921504606846976]
theorem laid_is : [("buttress/scalar.order", Rows.laid_buttress_scalar_order)] = [("buttress/scalar.order", Lib.tabData (H := Unit) .u64 listO)] := by kernel_rfl
theorem tables {W : World} (h : laidMet Tryz.prog [("buttress/scalar.order", Rows.laid_buttress_scalar_order)] W) : OTab W := by
  rw [laid_is] at h
  have g0 : Tryz.prog.globalNamed "buttress/scalar.order" = some 0 := by kernel_rfl
  have h0 := Lib.tabIs_of_head g0 (by kernel_rfl) Tryz.underlying44 Tryz.underlying40 (by kernel_rfl) (by kernel_rfl) h
  have hp : ∀ i, i < 4 → W.cell? ⟨0, i, none⟩ = some (u64N (Sc.lw i)) := fun i hi => by
    rw [h0.cell g0 i hi]
    obtain rfl | rfl | rfl | rfl : i = 0 ∨ i = 1 ∨ i = 2 ∨ i = 3 := by omega
    all_goals rfl
  exact ⟨block_lt_of_cell (hp 0 (by decide)), hp⟩
/-- another row in a block -/
def putObj (l : List Int) : Obj → Obj
  | .cells _ t frozen => .cells (l.map (Value.int .u64)).toArray t frozen
  | o => o
/-- A WORLD FOR A WITNESS: the settled one, the order holding what its initialiser lays. -/
noncomputable def laidWorld (os : Os) : World :=
  { World.holding Tryz.prog os ⟨#[], #[], []⟩ with heap := (World.holding Tryz.prog os ⟨#[], #[], []⟩).heap.modify 0 (putObj listO) }
end Go.Proofs.YtmnlidfalhjghaaGreatDoor
