/- The kit's flat..: of no list, true. (gen_nils.py) -/
import Derived.Test.YtmnlidfalhjghaaGreatDoorFlatGrow
namespace Go.Proofs.YtmnlidfalhjghaaGreatDoor
open Go.RowKit Ow

theorem make_none (st e : TypeId) (hu : Tryz.prog.underlying st = some (.slice e)) (hi : (Tryz.prog.info? e).map (fun i => i.zero.isSome) = some true) (w : World) : ∃ w', (Instr.makeSlice st (.int .i64 0) (.int .i64 0)).run Tryz.prog w = .ok (.slice (some ⟨w.heap.size, 0, none⟩) 0 0) w' ∧ w.grownBy w' none := by
  obtain ⟨i, hi1, hi2⟩ : ∃ i, Tryz.prog.info? e = some i ∧ i.zero.isSome = true := by
    cases h : Tryz.prog.info? e with
    | none => rw [h] at hi; cases hi
    | some i => rw [h] at hi; exact ⟨i, rfl, by simpa using hi⟩
  obtain ⟨z, hz⟩ := Option.isSome_iff_exists.1 hi2
  have h2 := run_make (P := Tryz.prog) w st e i z hu hi1 hz .i64 .i64 0 0 (by omega) (by omega) (by omega) (by omega)
  exact ⟨_, h2, gb_alloc (gb_refl _ _) _⟩

set_option maxRecDepth 100000 in
set_option maxHeartbeats 4000000 in
theorem flatLimbs_nil (w : World) : Calls Tryz.prog 44 #[.slice none 0 0] w fun e w' => e = .returned (.bool true) ∧ w.grownBy w' none := by
  go_enter Tryz.func44, Tryz.ntmps44
  go_wp2
  go_loopw [3] (fun i wr => i = .int .i64 0 ∧ w.grownBy wr none) (fun _ _ => 0)
  case atStart => exact ⟨rfl, gb_refl _ _⟩
  obtain ⟨rfl, hg⟩ := hrel
  obtain ⟨w2, hmk, hg2⟩ := make_none 55 123 Tryz.underlying55 (by kernel_rfl) wr
  have hg3 := gb_trans hg hg2
  go_wp2
  go_loopw [6] (fun i wr => i = .int .i64 0 ∧ w.grownBy wr none) (fun _ _ => 0)
  case atStart => exact ⟨rfl, hg3⟩
  obtain ⟨rfl, hg⟩ := hrel
  go_wp2
  go_loopw [9] (fun i wr => i = .int .i64 0 ∧ w.grownBy wr none) (fun _ _ => 0)
  case atStart => exact ⟨rfl, hg⟩
  obtain ⟨rfl, hg⟩ := hrel
  go_wp2
  go_loopw [11] (fun i wr => i = .int .i64 0 ∧ w.grownBy wr none) (fun _ _ => 0)
  case atStart => exact ⟨rfl, hg⟩
  obtain ⟨rfl, hg⟩ := hrel
  go_wp2
  go_loopw [14] (fun i wr => i = .int .i64 0 ∧ w.grownBy wr none) (fun _ _ => 0)
  case atStart => exact ⟨rfl, hg⟩
  obtain ⟨rfl, hg⟩ := hrel
  go_wp2
  go_ret
  exact ⟨rfl, hg⟩
set_option maxRecDepth 100000 in
set_option maxHeartbeats 4000000 in
theorem flatWords_nil (w : World) : Calls Tryz.prog 45 #[.slice none 0 0] w fun e w' => e = .returned (.bool true) ∧ w.grownBy w' none := by
  go_enter Tryz.func45, Tryz.ntmps45
  go_wp2
  go_loopw [3] (fun i wr => i = .int .i64 0 ∧ w.grownBy wr none) (fun _ _ => 0)
  case atStart => exact ⟨rfl, gb_refl _ _⟩
  obtain ⟨rfl, hg⟩ := hrel
  obtain ⟨w2, hmk, hg2⟩ := make_none 56 87 Tryz.underlying56 (by kernel_rfl) wr
  have hg3 := gb_trans hg hg2
  go_wp2
  go_loopw [6] (fun i wr => i = .int .i64 0 ∧ w.grownBy wr none) (fun _ _ => 0)
  case atStart => exact ⟨rfl, hg3⟩
  obtain ⟨rfl, hg⟩ := hrel
  go_wp2
  go_loopw [9] (fun i wr => i = .int .i64 0 ∧ w.grownBy wr none) (fun _ _ => 0)
  case atStart => exact ⟨rfl, hg⟩
  obtain ⟨rfl, hg⟩ := hrel
  go_wp2
  go_loopw [11] (fun i wr => i = .int .i64 0 ∧ w.grownBy wr none) (fun _ _ => 0)
  case atStart => exact ⟨rfl, hg⟩
  obtain ⟨rfl, hg⟩ := hrel
  go_wp2
  go_loopw [14] (fun i wr => i = .int .i64 0 ∧ w.grownBy wr none) (fun _ _ => 0)
  case atStart => exact ⟨rfl, hg⟩
  obtain ⟨rfl, hg⟩ := hrel
  go_wp2
  go_ret
  exact ⟨rfl, hg⟩
set_option maxRecDepth 100000 in
set_option maxHeartbeats 4000000 in
theorem flatInts_nil (w : World) : Calls Tryz.prog 46 #[.slice none 0 0] w fun e w' => e = .returned (.bool true) ∧ w.grownBy w' none := by
  go_enter Tryz.func46, Tryz.ntmps46
  go_wp2
  go_loopw [3] (fun i wr => i = .int .i64 0 ∧ w.grownBy wr none) (fun _ _ => 0)
  case atStart => exact ⟨rfl, gb_refl _ _⟩
  obtain ⟨rfl, hg⟩ := hrel
  obtain ⟨w2, hmk, hg2⟩ := make_none 57 83 Tryz.underlying57 (by kernel_rfl) wr
  have hg3 := gb_trans hg hg2
  go_wp2
  go_loopw [6] (fun i wr => i = .int .i64 0 ∧ w.grownBy wr none) (fun _ _ => 0)
  case atStart => exact ⟨rfl, hg3⟩
  obtain ⟨rfl, hg⟩ := hrel
  go_wp2
  go_loopw [9] (fun i wr => i = .int .i64 0 ∧ w.grownBy wr none) (fun _ _ => 0)
  case atStart => exact ⟨rfl, hg⟩
  obtain ⟨rfl, hg⟩ := hrel
  go_wp2
  go_loopw [11] (fun i wr => i = .int .i64 0 ∧ w.grownBy wr none) (fun _ _ => 0)
  case atStart => exact ⟨rfl, hg⟩
  obtain ⟨rfl, hg⟩ := hrel
  go_wp2
  go_loopw [14] (fun i wr => i = .int .i64 0 ∧ w.grownBy wr none) (fun _ _ => 0)
  case atStart => exact ⟨rfl, hg⟩
  obtain ⟨rfl, hg⟩ := hrel
  go_wp2
  go_ret
  exact ⟨rfl, hg⟩
set_option maxRecDepth 100000 in
set_option maxHeartbeats 4000000 in
theorem flatLongs_nil (w : World) : Calls Tryz.prog 47 #[.slice none 0 0] w fun e w' => e = .returned (.bool true) ∧ w.grownBy w' none := by
  go_enter Tryz.func47, Tryz.ntmps47
  go_wp2
  go_loopw [3] (fun i wr => i = .int .i64 0 ∧ w.grownBy wr none) (fun _ _ => 0)
  case atStart => exact ⟨rfl, gb_refl _ _⟩
  obtain ⟨rfl, hg⟩ := hrel
  obtain ⟨w2, hmk, hg2⟩ := make_none 58 125 Tryz.underlying58 (by kernel_rfl) wr
  have hg3 := gb_trans hg hg2
  go_wp2
  go_loopw [6] (fun i wr => i = .int .i64 0 ∧ w.grownBy wr none) (fun _ _ => 0)
  case atStart => exact ⟨rfl, hg3⟩
  obtain ⟨rfl, hg⟩ := hrel
  go_wp2
  go_loopw [9] (fun i wr => i = .int .i64 0 ∧ w.grownBy wr none) (fun _ _ => 0)
  case atStart => exact ⟨rfl, hg⟩
  obtain ⟨rfl, hg⟩ := hrel
  go_wp2
  go_loopw [11] (fun i wr => i = .int .i64 0 ∧ w.grownBy wr none) (fun _ _ => 0)
  case atStart => exact ⟨rfl, hg⟩
  obtain ⟨rfl, hg⟩ := hrel
  go_wp2
  go_loopw [14] (fun i wr => i = .int .i64 0 ∧ w.grownBy wr none) (fun _ _ => 0)
  case atStart => exact ⟨rfl, hg⟩
  obtain ⟨rfl, hg⟩ := hrel
  go_wp2
  go_ret
  exact ⟨rfl, hg⟩
set_option maxRecDepth 100000 in
set_option maxHeartbeats 4000000 in
theorem flatTexts_nil (w : World) : Calls Tryz.prog 48 #[.slice none 0 0] w fun e w' => e = .returned (.bool true) ∧ w.grownBy w' none := by
  go_enter Tryz.func48, Tryz.ntmps48
  go_wp2
  go_loopw [3] (fun i wr => i = .int .i64 0 ∧ w.grownBy wr none) (fun _ _ => 0)
  case atStart => exact ⟨rfl, gb_refl _ _⟩
  obtain ⟨rfl, hg⟩ := hrel
  obtain ⟨w2, hmk, hg2⟩ := make_none 59 126 Tryz.underlying59 (by kernel_rfl) wr
  have hg3 := gb_trans hg hg2
  go_wp2
  go_loopw [6] (fun i wr => i = .int .i64 0 ∧ w.grownBy wr none) (fun _ _ => 0)
  case atStart => exact ⟨rfl, hg3⟩
  obtain ⟨rfl, hg⟩ := hrel
  go_wp2
  go_loopw [9] (fun i wr => i = .int .i64 0 ∧ w.grownBy wr none) (fun _ _ => 0)
  case atStart => exact ⟨rfl, hg⟩
  obtain ⟨rfl, hg⟩ := hrel
  go_wp2
  go_loopw [11] (fun i wr => i = .int .i64 0 ∧ w.grownBy wr none) (fun _ _ => 0)
  case atStart => exact ⟨rfl, hg⟩
  obtain ⟨rfl, hg⟩ := hrel
  go_wp2
  go_loopw [14] (fun i wr => i = .int .i64 0 ∧ w.grownBy wr none) (fun _ _ => 0)
  case atStart => exact ⟨rfl, hg⟩
  obtain ⟨rfl, hg⟩ := hrel
  go_wp2
  go_ret
  exact ⟨rfl, hg⟩
set_option maxRecDepth 100000 in
set_option maxHeartbeats 4000000 in
theorem flatBytes_nil (w : World) : Calls Tryz.prog 49 #[.slice none 0 0] w fun e w' => e = .returned (.bool true) ∧ w.grownBy w' none := by
  go_enter Tryz.func49, Tryz.ntmps49
  go_wp2
  go_loopw [3] (fun i wr => i = .int .i64 0 ∧ w.grownBy wr none) (fun _ _ => 0)
  case atStart => exact ⟨rfl, gb_refl _ _⟩
  obtain ⟨rfl, hg⟩ := hrel
  obtain ⟨w2, hmk, hg2⟩ := make_none 31 22 Tryz.underlying31 (by kernel_rfl) wr
  have hg3 := gb_trans hg hg2
  go_wp2
  go_loopw [6] (fun i wr => i = .int .i64 0 ∧ w.grownBy wr none) (fun _ _ => 0)
  case atStart => exact ⟨rfl, hg3⟩
  obtain ⟨rfl, hg⟩ := hrel
  go_wp2
  go_loopw [9] (fun i wr => i = .int .i64 0 ∧ w.grownBy wr none) (fun _ _ => 0)
  case atStart => exact ⟨rfl, hg⟩
  obtain ⟨rfl, hg⟩ := hrel
  go_wp2
  go_loopw [11] (fun i wr => i = .int .i64 0 ∧ w.grownBy wr none) (fun _ _ => 0)
  case atStart => exact ⟨rfl, hg⟩
  obtain ⟨rfl, hg⟩ := hrel
  go_wp2
  go_loopw [14] (fun i wr => i = .int .i64 0 ∧ w.grownBy wr none) (fun _ _ => 0)
  case atStart => exact ⟨rfl, hg⟩
  obtain ⟨rfl, hg⟩ := hrel
  go_wp2
  go_ret
  exact ⟨rfl, hg⟩
set_option maxRecDepth 100000 in
set_option maxHeartbeats 4000000 in
theorem flatTruths_nil (w : World) : Calls Tryz.prog 50 #[.slice none 0 0] w fun e w' => e = .returned (.bool true) ∧ w.grownBy w' none := by
  go_enter Tryz.func50, Tryz.ntmps50
  go_wp2
  go_loopw [3] (fun i wr => i = .int .i64 0 ∧ w.grownBy wr none) (fun _ _ => 0)
  case atStart => exact ⟨rfl, gb_refl _ _⟩
  obtain ⟨rfl, hg⟩ := hrel
  obtain ⟨w2, hmk, hg2⟩ := make_none 33 25 Tryz.underlying33 (by kernel_rfl) wr
  have hg3 := gb_trans hg hg2
  go_wp2
  go_loopw [6] (fun i wr => i = .int .i64 0 ∧ w.grownBy wr none) (fun _ _ => 0)
  case atStart => exact ⟨rfl, hg3⟩
  obtain ⟨rfl, hg⟩ := hrel
  go_wp2
  go_loopw [9] (fun i wr => i = .int .i64 0 ∧ w.grownBy wr none) (fun _ _ => 0)
  case atStart => exact ⟨rfl, hg⟩
  obtain ⟨rfl, hg⟩ := hrel
  go_wp2
  go_loopw [11] (fun i wr => i = .int .i64 0 ∧ w.grownBy wr none) (fun _ _ => 0)
  case atStart => exact ⟨rfl, hg⟩
  obtain ⟨rfl, hg⟩ := hrel
  go_wp2
  go_loopw [14] (fun i wr => i = .int .i64 0 ∧ w.grownBy wr none) (fun _ _ => 0)
  case atStart => exact ⟨rfl, hg⟩
  obtain ⟨rfl, hg⟩ := hrel
  go_wp2
  go_ret
  exact ⟨rfl, hg⟩
set_option maxRecDepth 100000 in
set_option maxHeartbeats 4000000 in
theorem flatRows_nil (w : World) : Calls Tryz.prog 51 #[.slice none 0 0] w fun e w' => e = .returned (.bool true) ∧ w.grownBy w' none := by
  go_enter Tryz.func51, Tryz.ntmps51
  go_wp2
  go_loopw [3] (fun i wr => i = .int .i64 0 ∧ w.grownBy wr none) (fun _ _ => 0)
  case atStart => exact ⟨rfl, gb_refl _ _⟩
  obtain ⟨rfl, hg⟩ := hrel
  obtain ⟨w2, hmk, hg2⟩ := make_none 60 31 Tryz.underlying60 (by kernel_rfl) wr
  have hg3 := gb_trans hg hg2
  go_wp2
  go_loopw [6] (fun i wr => i = .int .i64 0 ∧ w.grownBy wr none) (fun _ _ => 0)
  case atStart => exact ⟨rfl, hg3⟩
  obtain ⟨rfl, hg⟩ := hrel
  go_wp2
  go_loopw [9] (fun i wr => i = .int .i64 0 ∧ w.grownBy wr none) (fun _ _ => 0)
  case atStart => exact ⟨rfl, hg⟩
  obtain ⟨rfl, hg⟩ := hrel
  go_wp2
  go_loopw [11] (fun i wr => i = .int .i64 0 ∧ w.grownBy wr none) (fun _ _ => 0)
  case atStart => exact ⟨rfl, hg⟩
  obtain ⟨rfl, hg⟩ := hrel
  go_wp2
  go_loopw [14] (fun i wr => i = .int .i64 0 ∧ w.grownBy wr none) (fun _ _ => 0)
  case atStart => exact ⟨rfl, hg⟩
  obtain ⟨rfl, hg⟩ := hrel
  go_wp2
  go_ret
  exact ⟨rfl, hg⟩
set_option maxRecDepth 100000 in
set_option maxHeartbeats 4000000 in
theorem flatDots_nil (w : World) : Calls Tryz.prog 52 #[.slice none 0 0] w fun e w' => e = .returned (.bool true) ∧ w.grownBy w' none := by
  go_enter Tryz.func52, Tryz.ntmps52
  go_wp2
  go_loopw [3] (fun i wr => i = .int .i64 0 ∧ w.grownBy wr none) (fun _ _ => 0)
  case atStart => exact ⟨rfl, gb_refl _ _⟩
  obtain ⟨rfl, hg⟩ := hrel
  obtain ⟨w2, hmk, hg2⟩ := make_none 61 129 Tryz.underlying61 (by kernel_rfl) wr
  have hg3 := gb_trans hg hg2
  go_wp2
  go_loopw [6] (fun i wr => i = .int .i64 0 ∧ w.grownBy wr none) (fun _ _ => 0)
  case atStart => exact ⟨rfl, hg3⟩
  obtain ⟨rfl, hg⟩ := hrel
  go_wp2
  go_loopw [9] (fun i wr => i = .int .i64 0 ∧ w.grownBy wr none) (fun _ _ => 0)
  case atStart => exact ⟨rfl, hg⟩
  obtain ⟨rfl, hg⟩ := hrel
  go_wp2
  go_loopw [11] (fun i wr => i = .int .i64 0 ∧ w.grownBy wr none) (fun _ _ => 0)
  case atStart => exact ⟨rfl, hg⟩
  obtain ⟨rfl, hg⟩ := hrel
  go_wp2
  go_loopw [14] (fun i wr => i = .int .i64 0 ∧ w.grownBy wr none) (fun _ _ => 0)
  case atStart => exact ⟨rfl, hg⟩
  obtain ⟨rfl, hg⟩ := hrel
  go_wp2
  go_ret
  exact ⟨rfl, hg⟩
set_option maxRecDepth 100000 in
set_option maxHeartbeats 4000000 in
theorem flatRecords_nil (w : World) : Calls Tryz.prog 53 #[.slice none 0 0] w fun e w' => e = .returned (.bool true) ∧ w.grownBy w' none := by
  go_enter Tryz.func53, Tryz.ntmps53
  go_wp2
  go_loopw [3] (fun i wr => i = .int .i64 0 ∧ w.grownBy wr none) (fun _ _ => 0)
  case atStart => exact ⟨rfl, gb_refl _ _⟩
  obtain ⟨rfl, hg⟩ := hrel
  obtain ⟨w2, hmk, hg2⟩ := make_none 62 133 Tryz.underlying62 (by kernel_rfl) wr
  have hg3 := gb_trans hg hg2
  go_wp2
  go_loopw [6] (fun i wr => i = .int .i64 0 ∧ w.grownBy wr none) (fun _ _ => 0)
  case atStart => exact ⟨rfl, hg3⟩
  obtain ⟨rfl, hg⟩ := hrel
  go_wp2
  go_loopw [9] (fun i wr => i = .int .i64 0 ∧ w.grownBy wr none) (fun _ _ => 0)
  case atStart => exact ⟨rfl, hg⟩
  obtain ⟨rfl, hg⟩ := hrel
  go_wp2
  go_loopw [11] (fun i wr => i = .int .i64 0 ∧ w.grownBy wr none) (fun _ _ => 0)
  case atStart => exact ⟨rfl, hg⟩
  obtain ⟨rfl, hg⟩ := hrel
  go_wp2
  go_loopw [14] (fun i wr => i = .int .i64 0 ∧ w.grownBy wr none) (fun _ _ => 0)
  case atStart => exact ⟨rfl, hg⟩
  obtain ⟨rfl, hg⟩ := hrel
  go_wp2
  go_ret
  exact ⟨rfl, hg⟩
set_option maxRecDepth 100000 in
set_option maxHeartbeats 4000000 in
theorem flatLeaves_nil (w : World) : Calls Tryz.prog 54 #[.slice none 0 0] w fun e w' => e = .returned (.bool true) ∧ w.grownBy w' none := by
  go_enter Tryz.func54, Tryz.ntmps54
  go_wp2
  go_loopw [3] (fun i wr => i = .int .i64 0 ∧ w.grownBy wr none) (fun _ _ => 0)
  case atStart => exact ⟨rfl, gb_refl _ _⟩
  obtain ⟨rfl, hg⟩ := hrel
  obtain ⟨w2, hmk, hg2⟩ := make_none 63 138 Tryz.underlying63 (by kernel_rfl) wr
  have hg3 := gb_trans hg hg2
  go_wp2
  go_loopw [6] (fun i wr => i = .int .i64 0 ∧ w.grownBy wr none) (fun _ _ => 0)
  case atStart => exact ⟨rfl, hg3⟩
  obtain ⟨rfl, hg⟩ := hrel
  go_wp2
  go_loopw [9] (fun i wr => i = .int .i64 0 ∧ w.grownBy wr none) (fun _ _ => 0)
  case atStart => exact ⟨rfl, hg⟩
  obtain ⟨rfl, hg⟩ := hrel
  go_wp2
  go_loopw [11] (fun i wr => i = .int .i64 0 ∧ w.grownBy wr none) (fun _ _ => 0)
  case atStart => exact ⟨rfl, hg⟩
  obtain ⟨rfl, hg⟩ := hrel
  go_wp2
  go_loopw [14] (fun i wr => i = .int .i64 0 ∧ w.grownBy wr none) (fun _ _ => 0)
  case atStart => exact ⟨rfl, hg⟩
  obtain ⟨rfl, hg⟩ := hrel
  go_wp2
  go_ret
  exact ⟨rfl, hg⟩
set_option maxRecDepth 100000 in
set_option maxHeartbeats 4000000 in
theorem flatGrants_nil (w : World) : Calls Tryz.prog 55 #[.slice none 0 0] w fun e w' => e = .returned (.bool true) ∧ w.grownBy w' none := by
  go_enter Tryz.func55, Tryz.ntmps55
  go_wp2
  go_loopw [3] (fun i wr => i = .int .i64 0 ∧ w.grownBy wr none) (fun _ _ => 0)
  case atStart => exact ⟨rfl, gb_refl _ _⟩
  obtain ⟨rfl, hg⟩ := hrel
  obtain ⟨w2, hmk, hg2⟩ := make_none 64 143 Tryz.underlying64 (by kernel_rfl) wr
  have hg3 := gb_trans hg hg2
  go_wp2
  go_loopw [6] (fun i wr => i = .int .i64 0 ∧ w.grownBy wr none) (fun _ _ => 0)
  case atStart => exact ⟨rfl, hg3⟩
  obtain ⟨rfl, hg⟩ := hrel
  go_wp2
  go_loopw [9] (fun i wr => i = .int .i64 0 ∧ w.grownBy wr none) (fun _ _ => 0)
  case atStart => exact ⟨rfl, hg⟩
  obtain ⟨rfl, hg⟩ := hrel
  go_wp2
  go_loopw [11] (fun i wr => i = .int .i64 0 ∧ w.grownBy wr none) (fun _ _ => 0)
  case atStart => exact ⟨rfl, hg⟩
  obtain ⟨rfl, hg⟩ := hrel
  go_wp2
  go_loopw [14] (fun i wr => i = .int .i64 0 ∧ w.grownBy wr none) (fun _ _ => 0)
  case atStart => exact ⟨rfl, hg⟩
  obtain ⟨rfl, hg⟩ := hrel
  go_wp2
  go_ret
  exact ⟨rfl, hg⟩
set_option maxRecDepth 100000 in
set_option maxHeartbeats 4000000 in
theorem flatNodes_nil (w : World) : Calls Tryz.prog 56 #[.slice none 0 0] w fun e w' => e = .returned (.bool true) ∧ w.grownBy w' none := by
  go_enter Tryz.func56, Tryz.ntmps56
  go_wp2
  go_loopw [3] (fun i wr => i = .int .i64 0 ∧ w.grownBy wr none) (fun _ _ => 0)
  case atStart => exact ⟨rfl, gb_refl _ _⟩
  obtain ⟨rfl, hg⟩ := hrel
  obtain ⟨w2, hmk, hg2⟩ := make_none 65 148 Tryz.underlying65 (by kernel_rfl) wr
  have hg3 := gb_trans hg hg2
  go_wp2
  go_loopw [6] (fun i wr => i = .int .i64 0 ∧ w.grownBy wr none) (fun _ _ => 0)
  case atStart => exact ⟨rfl, hg3⟩
  obtain ⟨rfl, hg⟩ := hrel
  go_wp2
  go_loopw [9] (fun i wr => i = .int .i64 0 ∧ w.grownBy wr none) (fun _ _ => 0)
  case atStart => exact ⟨rfl, hg⟩
  obtain ⟨rfl, hg⟩ := hrel
  go_wp2
  go_loopw [11] (fun i wr => i = .int .i64 0 ∧ w.grownBy wr none) (fun _ _ => 0)
  case atStart => exact ⟨rfl, hg⟩
  obtain ⟨rfl, hg⟩ := hrel
  go_wp2
  go_loopw [14] (fun i wr => i = .int .i64 0 ∧ w.grownBy wr none) (fun _ _ => 0)
  case atStart => exact ⟨rfl, hg⟩
  obtain ⟨rfl, hg⟩ := hrel
  go_wp2
  go_ret
  exact ⟨rfl, hg⟩
set_option maxRecDepth 100000 in
set_option maxHeartbeats 4000000 in
theorem flatStubs_nil (w : World) : Calls Tryz.prog 57 #[.slice none 0 0] w fun e w' => e = .returned (.bool true) ∧ w.grownBy w' none := by
  go_enter Tryz.func57, Tryz.ntmps57
  go_wp2
  go_loopw [3] (fun i wr => i = .int .i64 0 ∧ w.grownBy wr none) (fun _ _ => 0)
  case atStart => exact ⟨rfl, gb_refl _ _⟩
  obtain ⟨rfl, hg⟩ := hrel
  obtain ⟨w2, hmk, hg2⟩ := make_none 66 154 Tryz.underlying66 (by kernel_rfl) wr
  have hg3 := gb_trans hg hg2
  go_wp2
  go_loopw [6] (fun i wr => i = .int .i64 0 ∧ w.grownBy wr none) (fun _ _ => 0)
  case atStart => exact ⟨rfl, hg3⟩
  obtain ⟨rfl, hg⟩ := hrel
  go_wp2
  go_loopw [9] (fun i wr => i = .int .i64 0 ∧ w.grownBy wr none) (fun _ _ => 0)
  case atStart => exact ⟨rfl, hg⟩
  obtain ⟨rfl, hg⟩ := hrel
  go_wp2
  go_loopw [11] (fun i wr => i = .int .i64 0 ∧ w.grownBy wr none) (fun _ _ => 0)
  case atStart => exact ⟨rfl, hg⟩
  obtain ⟨rfl, hg⟩ := hrel
  go_wp2
  go_loopw [14] (fun i wr => i = .int .i64 0 ∧ w.grownBy wr none) (fun _ _ => 0)
  case atStart => exact ⟨rfl, hg⟩
  obtain ⟨rfl, hg⟩ := hrel
  go_wp2
  go_ret
  exact ⟨rfl, hg⟩
set_option maxRecDepth 100000 in
set_option maxHeartbeats 4000000 in
theorem flatProofs_nil (w : World) : Calls Tryz.prog 58 #[.slice none 0 0] w fun e w' => e = .returned (.bool true) ∧ w.grownBy w' none := by
  go_enter Tryz.func58, Tryz.ntmps58
  go_wp2
  go_loopw [3] (fun i wr => i = .int .i64 0 ∧ w.grownBy wr none) (fun _ _ => 0)
  case atStart => exact ⟨rfl, gb_refl _ _⟩
  obtain ⟨rfl, hg⟩ := hrel
  obtain ⟨w2, hmk, hg2⟩ := make_none 67 159 Tryz.underlying67 (by kernel_rfl) wr
  have hg3 := gb_trans hg hg2
  go_wp2
  go_loopw [6] (fun i wr => i = .int .i64 0 ∧ w.grownBy wr none) (fun _ _ => 0)
  case atStart => exact ⟨rfl, hg3⟩
  obtain ⟨rfl, hg⟩ := hrel
  go_wp2
  go_loopw [9] (fun i wr => i = .int .i64 0 ∧ w.grownBy wr none) (fun _ _ => 0)
  case atStart => exact ⟨rfl, hg⟩
  obtain ⟨rfl, hg⟩ := hrel
  go_wp2
  go_loopw [11] (fun i wr => i = .int .i64 0 ∧ w.grownBy wr none) (fun _ _ => 0)
  case atStart => exact ⟨rfl, hg⟩
  obtain ⟨rfl, hg⟩ := hrel
  go_wp2
  go_loopw [14] (fun i wr => i = .int .i64 0 ∧ w.grownBy wr none) (fun _ _ => 0)
  case atStart => exact ⟨rfl, hg⟩
  obtain ⟨rfl, hg⟩ := hrel
  go_wp2
  go_ret
  exact ⟨rfl, hg⟩
set_option maxRecDepth 100000 in
set_option maxHeartbeats 4000000 in
theorem flatRoots_nil (w : World) : Calls Tryz.prog 59 #[.slice none 0 0] w fun e w' => e = .returned (.bool true) ∧ w.grownBy w' none := by
  go_enter Tryz.func59, Tryz.ntmps59
  go_wp2
  go_loopw [3] (fun i wr => i = .int .i64 0 ∧ w.grownBy wr none) (fun _ _ => 0)
  case atStart => exact ⟨rfl, gb_refl _ _⟩
  obtain ⟨rfl, hg⟩ := hrel
  obtain ⟨w2, hmk, hg2⟩ := make_none 68 164 Tryz.underlying68 (by kernel_rfl) wr
  have hg3 := gb_trans hg hg2
  go_wp2
  go_loopw [6] (fun i wr => i = .int .i64 0 ∧ w.grownBy wr none) (fun _ _ => 0)
  case atStart => exact ⟨rfl, hg3⟩
  obtain ⟨rfl, hg⟩ := hrel
  go_wp2
  go_loopw [9] (fun i wr => i = .int .i64 0 ∧ w.grownBy wr none) (fun _ _ => 0)
  case atStart => exact ⟨rfl, hg⟩
  obtain ⟨rfl, hg⟩ := hrel
  go_wp2
  go_loopw [11] (fun i wr => i = .int .i64 0 ∧ w.grownBy wr none) (fun _ _ => 0)
  case atStart => exact ⟨rfl, hg⟩
  obtain ⟨rfl, hg⟩ := hrel
  go_wp2
  go_loopw [14] (fun i wr => i = .int .i64 0 ∧ w.grownBy wr none) (fun _ _ => 0)
  case atStart => exact ⟨rfl, hg⟩
  obtain ⟨rfl, hg⟩ := hrel
  go_wp2
  go_ret
  exact ⟨rfl, hg⟩
set_option maxRecDepth 100000 in
set_option maxHeartbeats 4000000 in
theorem flatEvidenceRow_nil (w : World) : Calls Tryz.prog 60 #[.slice none 0 0] w fun e w' => e = .returned (.bool true) ∧ w.grownBy w' none := by
  go_enter Tryz.func60, Tryz.ntmps60
  go_wp2
  go_loopw [3] (fun i wr => i = .int .i64 0 ∧ w.grownBy wr none) (fun _ _ => 0)
  case atStart => exact ⟨rfl, gb_refl _ _⟩
  obtain ⟨rfl, hg⟩ := hrel
  obtain ⟨w2, hmk, hg2⟩ := make_none 69 169 Tryz.underlying69 (by kernel_rfl) wr
  have hg3 := gb_trans hg hg2
  go_wp2
  go_loopw [6] (fun i wr => i = .int .i64 0 ∧ w.grownBy wr none) (fun _ _ => 0)
  case atStart => exact ⟨rfl, hg3⟩
  obtain ⟨rfl, hg⟩ := hrel
  go_wp2
  go_loopw [9] (fun i wr => i = .int .i64 0 ∧ w.grownBy wr none) (fun _ _ => 0)
  case atStart => exact ⟨rfl, hg⟩
  obtain ⟨rfl, hg⟩ := hrel
  go_wp2
  go_loopw [11] (fun i wr => i = .int .i64 0 ∧ w.grownBy wr none) (fun _ _ => 0)
  case atStart => exact ⟨rfl, hg⟩
  obtain ⟨rfl, hg⟩ := hrel
  go_wp2
  go_loopw [14] (fun i wr => i = .int .i64 0 ∧ w.grownBy wr none) (fun _ _ => 0)
  case atStart => exact ⟨rfl, hg⟩
  obtain ⟨rfl, hg⟩ := hrel
  go_wp2
  go_ret
  exact ⟨rfl, hg⟩
set_option maxRecDepth 100000 in
set_option maxHeartbeats 4000000 in
theorem flatFrames_nil (w : World) : Calls Tryz.prog 61 #[.slice none 0 0] w fun e w' => e = .returned (.bool true) ∧ w.grownBy w' none := by
  go_enter Tryz.func61, Tryz.ntmps61
  go_wp2
  go_loopw [3] (fun i wr => i = .int .i64 0 ∧ w.grownBy wr none) (fun _ _ => 0)
  case atStart => exact ⟨rfl, gb_refl _ _⟩
  obtain ⟨rfl, hg⟩ := hrel
  obtain ⟨w2, hmk, hg2⟩ := make_none 70 174 Tryz.underlying70 (by kernel_rfl) wr
  have hg3 := gb_trans hg hg2
  go_wp2
  go_loopw [6] (fun i wr => i = .int .i64 0 ∧ w.grownBy wr none) (fun _ _ => 0)
  case atStart => exact ⟨rfl, hg3⟩
  obtain ⟨rfl, hg⟩ := hrel
  go_wp2
  go_loopw [9] (fun i wr => i = .int .i64 0 ∧ w.grownBy wr none) (fun _ _ => 0)
  case atStart => exact ⟨rfl, hg⟩
  obtain ⟨rfl, hg⟩ := hrel
  go_wp2
  go_loopw [11] (fun i wr => i = .int .i64 0 ∧ w.grownBy wr none) (fun _ _ => 0)
  case atStart => exact ⟨rfl, hg⟩
  obtain ⟨rfl, hg⟩ := hrel
  go_wp2
  go_loopw [14] (fun i wr => i = .int .i64 0 ∧ w.grownBy wr none) (fun _ _ => 0)
  case atStart => exact ⟨rfl, hg⟩
  obtain ⟨rfl, hg⟩ := hrel
  go_wp2
  go_ret
  exact ⟨rfl, hg⟩
set_option maxRecDepth 100000 in
set_option maxHeartbeats 4000000 in
theorem flatPackets_nil (w : World) : Calls Tryz.prog 62 #[.slice none 0 0] w fun e w' => e = .returned (.bool true) ∧ w.grownBy w' none := by
  go_enter Tryz.func62, Tryz.ntmps62
  go_wp2
  go_loopw [3] (fun i wr => i = .int .i64 0 ∧ w.grownBy wr none) (fun _ _ => 0)
  case atStart => exact ⟨rfl, gb_refl _ _⟩
  obtain ⟨rfl, hg⟩ := hrel
  obtain ⟨w2, hmk, hg2⟩ := make_none 71 181 Tryz.underlying71 (by kernel_rfl) wr
  have hg3 := gb_trans hg hg2
  go_wp2
  go_loopw [6] (fun i wr => i = .int .i64 0 ∧ w.grownBy wr none) (fun _ _ => 0)
  case atStart => exact ⟨rfl, hg3⟩
  obtain ⟨rfl, hg⟩ := hrel
  go_wp2
  go_loopw [9] (fun i wr => i = .int .i64 0 ∧ w.grownBy wr none) (fun _ _ => 0)
  case atStart => exact ⟨rfl, hg⟩
  obtain ⟨rfl, hg⟩ := hrel
  go_wp2
  go_loopw [11] (fun i wr => i = .int .i64 0 ∧ w.grownBy wr none) (fun _ _ => 0)
  case atStart => exact ⟨rfl, hg⟩
  obtain ⟨rfl, hg⟩ := hrel
  go_wp2
  go_loopw [14] (fun i wr => i = .int .i64 0 ∧ w.grownBy wr none) (fun _ _ => 0)
  case atStart => exact ⟨rfl, hg⟩
  obtain ⟨rfl, hg⟩ := hrel
  go_wp2
  go_ret
  exact ⟨rfl, hg⟩
set_option maxRecDepth 100000 in
set_option maxHeartbeats 4000000 in
theorem flatEntries_nil (w : World) : Calls Tryz.prog 63 #[.slice none 0 0] w fun e w' => e = .returned (.bool true) ∧ w.grownBy w' none := by
  go_enter Tryz.func63, Tryz.ntmps63
  go_wp2
  go_loopw [3] (fun i wr => i = .int .i64 0 ∧ w.grownBy wr none) (fun _ _ => 0)
  case atStart => exact ⟨rfl, gb_refl _ _⟩
  obtain ⟨rfl, hg⟩ := hrel
  obtain ⟨w2, hmk, hg2⟩ := make_none 72 186 Tryz.underlying72 (by kernel_rfl) wr
  have hg3 := gb_trans hg hg2
  go_wp2
  go_loopw [6] (fun i wr => i = .int .i64 0 ∧ w.grownBy wr none) (fun _ _ => 0)
  case atStart => exact ⟨rfl, hg3⟩
  obtain ⟨rfl, hg⟩ := hrel
  go_wp2
  go_loopw [9] (fun i wr => i = .int .i64 0 ∧ w.grownBy wr none) (fun _ _ => 0)
  case atStart => exact ⟨rfl, hg⟩
  obtain ⟨rfl, hg⟩ := hrel
  go_wp2
  go_loopw [11] (fun i wr => i = .int .i64 0 ∧ w.grownBy wr none) (fun _ _ => 0)
  case atStart => exact ⟨rfl, hg⟩
  obtain ⟨rfl, hg⟩ := hrel
  go_wp2
  go_loopw [14] (fun i wr => i = .int .i64 0 ∧ w.grownBy wr none) (fun _ _ => 0)
  case atStart => exact ⟨rfl, hg⟩
  obtain ⟨rfl, hg⟩ := hrel
  go_wp2
  go_ret
  exact ⟨rfl, hg⟩
set_option maxRecDepth 100000 in
set_option maxHeartbeats 4000000 in
theorem flatHeldRow_nil (w : World) : Calls Tryz.prog 64 #[.slice none 0 0] w fun e w' => e = .returned (.bool true) ∧ w.grownBy w' none := by
  go_enter Tryz.func64, Tryz.ntmps64
  go_wp2
  go_loopw [3] (fun i wr => i = .int .i64 0 ∧ w.grownBy wr none) (fun _ _ => 0)
  case atStart => exact ⟨rfl, gb_refl _ _⟩
  obtain ⟨rfl, hg⟩ := hrel
  obtain ⟨w2, hmk, hg2⟩ := make_none 73 192 Tryz.underlying73 (by kernel_rfl) wr
  have hg3 := gb_trans hg hg2
  go_wp2
  go_loopw [6] (fun i wr => i = .int .i64 0 ∧ w.grownBy wr none) (fun _ _ => 0)
  case atStart => exact ⟨rfl, hg3⟩
  obtain ⟨rfl, hg⟩ := hrel
  go_wp2
  go_loopw [9] (fun i wr => i = .int .i64 0 ∧ w.grownBy wr none) (fun _ _ => 0)
  case atStart => exact ⟨rfl, hg⟩
  obtain ⟨rfl, hg⟩ := hrel
  go_wp2
  go_loopw [11] (fun i wr => i = .int .i64 0 ∧ w.grownBy wr none) (fun _ _ => 0)
  case atStart => exact ⟨rfl, hg⟩
  obtain ⟨rfl, hg⟩ := hrel
  go_wp2
  go_loopw [14] (fun i wr => i = .int .i64 0 ∧ w.grownBy wr none) (fun _ _ => 0)
  case atStart => exact ⟨rfl, hg⟩
  obtain ⟨rfl, hg⟩ := hrel
  go_wp2
  go_ret
  exact ⟨rfl, hg⟩
set_option maxRecDepth 100000 in
set_option maxHeartbeats 4000000 in
theorem flatConfigs_nil (w : World) : Calls Tryz.prog 65 #[.slice none 0 0] w fun e w' => e = .returned (.bool true) ∧ w.grownBy w' none := by
  go_enter Tryz.func65, Tryz.ntmps65
  go_wp2
  go_loopw [3] (fun i wr => i = .int .i64 0 ∧ w.grownBy wr none) (fun _ _ => 0)
  case atStart => exact ⟨rfl, gb_refl _ _⟩
  obtain ⟨rfl, hg⟩ := hrel
  obtain ⟨w2, hmk, hg2⟩ := make_none 74 197 Tryz.underlying74 (by kernel_rfl) wr
  have hg3 := gb_trans hg hg2
  go_wp2
  go_loopw [6] (fun i wr => i = .int .i64 0 ∧ w.grownBy wr none) (fun _ _ => 0)
  case atStart => exact ⟨rfl, hg3⟩
  obtain ⟨rfl, hg⟩ := hrel
  go_wp2
  go_loopw [9] (fun i wr => i = .int .i64 0 ∧ w.grownBy wr none) (fun _ _ => 0)
  case atStart => exact ⟨rfl, hg⟩
  obtain ⟨rfl, hg⟩ := hrel
  go_wp2
  go_loopw [11] (fun i wr => i = .int .i64 0 ∧ w.grownBy wr none) (fun _ _ => 0)
  case atStart => exact ⟨rfl, hg⟩
  obtain ⟨rfl, hg⟩ := hrel
  go_wp2
  go_loopw [14] (fun i wr => i = .int .i64 0 ∧ w.grownBy wr none) (fun _ _ => 0)
  case atStart => exact ⟨rfl, hg⟩
  obtain ⟨rfl, hg⟩ := hrel
  go_wp2
  go_ret
  exact ⟨rfl, hg⟩
set_option maxRecDepth 100000 in
set_option maxHeartbeats 4000000 in
theorem flatSteps_nil (w : World) : Calls Tryz.prog 66 #[.slice none 0 0] w fun e w' => e = .returned (.bool true) ∧ w.grownBy w' none := by
  go_enter Tryz.func66, Tryz.ntmps66
  go_wp2
  go_loopw [3] (fun i wr => i = .int .i64 0 ∧ w.grownBy wr none) (fun _ _ => 0)
  case atStart => exact ⟨rfl, gb_refl _ _⟩
  obtain ⟨rfl, hg⟩ := hrel
  obtain ⟨w2, hmk, hg2⟩ := make_none 75 202 Tryz.underlying75 (by kernel_rfl) wr
  have hg3 := gb_trans hg hg2
  go_wp2
  go_loopw [6] (fun i wr => i = .int .i64 0 ∧ w.grownBy wr none) (fun _ _ => 0)
  case atStart => exact ⟨rfl, hg3⟩
  obtain ⟨rfl, hg⟩ := hrel
  go_wp2
  go_loopw [9] (fun i wr => i = .int .i64 0 ∧ w.grownBy wr none) (fun _ _ => 0)
  case atStart => exact ⟨rfl, hg⟩
  obtain ⟨rfl, hg⟩ := hrel
  go_wp2
  go_loopw [11] (fun i wr => i = .int .i64 0 ∧ w.grownBy wr none) (fun _ _ => 0)
  case atStart => exact ⟨rfl, hg⟩
  obtain ⟨rfl, hg⟩ := hrel
  go_wp2
  go_loopw [14] (fun i wr => i = .int .i64 0 ∧ w.grownBy wr none) (fun _ _ => 0)
  case atStart => exact ⟨rfl, hg⟩
  obtain ⟨rfl, hg⟩ := hrel
  go_wp2
  go_ret
  exact ⟨rfl, hg⟩
set_option maxRecDepth 100000 in
set_option maxHeartbeats 4000000 in
theorem flatTales_nil (w : World) : Calls Tryz.prog 67 #[.slice none 0 0] w fun e w' => e = .returned (.bool true) ∧ w.grownBy w' none := by
  go_enter Tryz.func67, Tryz.ntmps67
  go_wp2
  go_loopw [3] (fun i wr => i = .int .i64 0 ∧ w.grownBy wr none) (fun _ _ => 0)
  case atStart => exact ⟨rfl, gb_refl _ _⟩
  obtain ⟨rfl, hg⟩ := hrel
  obtain ⟨w2, hmk, hg2⟩ := make_none 76 208 Tryz.underlying76 (by kernel_rfl) wr
  have hg3 := gb_trans hg hg2
  go_wp2
  go_loopw [6] (fun i wr => i = .int .i64 0 ∧ w.grownBy wr none) (fun _ _ => 0)
  case atStart => exact ⟨rfl, hg3⟩
  obtain ⟨rfl, hg⟩ := hrel
  go_wp2
  go_loopw [9] (fun i wr => i = .int .i64 0 ∧ w.grownBy wr none) (fun _ _ => 0)
  case atStart => exact ⟨rfl, hg⟩
  obtain ⟨rfl, hg⟩ := hrel
  go_wp2
  go_loopw [11] (fun i wr => i = .int .i64 0 ∧ w.grownBy wr none) (fun _ _ => 0)
  case atStart => exact ⟨rfl, hg⟩
  obtain ⟨rfl, hg⟩ := hrel
  go_wp2
  go_loopw [14] (fun i wr => i = .int .i64 0 ∧ w.grownBy wr none) (fun _ _ => 0)
  case atStart => exact ⟨rfl, hg⟩
  obtain ⟨rfl, hg⟩ := hrel
  go_wp2
  go_ret
  exact ⟨rfl, hg⟩
end Go.Proofs.YtmnlidfalhjghaaGreatDoor
