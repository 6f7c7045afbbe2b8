/- The kit's flat..: of no list, true. (gen_nils.py) -/
import Derived.Test.YtkddpehkamkaoaaGreatDoorFlatGrow
namespace Go.Proofs.YtkddpehkamkaoaaGreatDoor
open Go.RowKit Ow

theorem make_none (st e : TypeId) (hu : Tryz.prog.underlying st = some (.slice e)) (hi : (Tryz.prog.info? e).map (fun i => i.zero.isSome) = some true) (w : World) : ∃ w', (Instr.makeSlice st (.int .i64 0) (.int .i64 0)).run Tryz.prog w = .ok (.slice (some ⟨w.heap.size, 0, none⟩) 0 0) w' ∧ w.grownBy w' none := by
  obtain ⟨i, hi1, hi2⟩ : ∃ i, Tryz.prog.info? e = some i ∧ i.zero.isSome = true := by
    cases h : Tryz.prog.info? e with
    | none => rw [h] at hi; cases hi
    | some i => rw [h] at hi; exact ⟨i, rfl, by simpa using hi⟩
  obtain ⟨z, hz⟩ := Option.isSome_iff_exists.1 hi2
  have h2 := run_make (P := Tryz.prog) w st e i z hu hi1 hz .i64 .i64 0 0 (by omega) (by omega) (by omega) (by omega)
  exact ⟨_, h2, gb_alloc (gb_refl _ _) _⟩

set_option maxRecDepth 100000 in
set_option maxHeartbeats 4000000 in
theorem flatLimbs_nil (w : World) : Calls Tryz.prog 32 #[.slice none 0 0] w fun e w' => e = .returned (.bool true) ∧ w.grownBy w' none := by
  go_enter Tryz.func32, Tryz.ntmps32
  go_wp2
  go_loopw [3] (fun i wr => i = .int .i64 0 ∧ w.grownBy wr none) (fun _ _ => 0)
  case atStart => exact ⟨rfl, gb_refl _ _⟩
  obtain ⟨rfl, hg⟩ := hrel
  obtain ⟨w2, hmk, hg2⟩ := make_none 43 107 Tryz.underlying43 (by kernel_rfl) wr
  have hg3 := gb_trans hg hg2
  go_wp2
  go_loopw [6] (fun i wr => i = .int .i64 0 ∧ w.grownBy wr none) (fun _ _ => 0)
  case atStart => exact ⟨rfl, hg3⟩
  obtain ⟨rfl, hg⟩ := hrel
  go_wp2
  go_loopw [9] (fun i wr => i = .int .i64 0 ∧ w.grownBy wr none) (fun _ _ => 0)
  case atStart => exact ⟨rfl, hg⟩
  obtain ⟨rfl, hg⟩ := hrel
  go_wp2
  go_loopw [11] (fun i wr => i = .int .i64 0 ∧ w.grownBy wr none) (fun _ _ => 0)
  case atStart => exact ⟨rfl, hg⟩
  obtain ⟨rfl, hg⟩ := hrel
  go_wp2
  go_loopw [14] (fun i wr => i = .int .i64 0 ∧ w.grownBy wr none) (fun _ _ => 0)
  case atStart => exact ⟨rfl, hg⟩
  obtain ⟨rfl, hg⟩ := hrel
  go_wp2
  go_ret
  exact ⟨rfl, hg⟩
set_option maxRecDepth 100000 in
set_option maxHeartbeats 4000000 in
theorem flatWords_nil (w : World) : Calls Tryz.prog 33 #[.slice none 0 0] w fun e w' => e = .returned (.bool true) ∧ w.grownBy w' none := by
  go_enter Tryz.func33, Tryz.ntmps33
  go_wp2
  go_loopw [3] (fun i wr => i = .int .i64 0 ∧ w.grownBy wr none) (fun _ _ => 0)
  case atStart => exact ⟨rfl, gb_refl _ _⟩
  obtain ⟨rfl, hg⟩ := hrel
  obtain ⟨w2, hmk, hg2⟩ := make_none 44 38 Tryz.underlying44 (by kernel_rfl) wr
  have hg3 := gb_trans hg hg2
  go_wp2
  go_loopw [6] (fun i wr => i = .int .i64 0 ∧ w.grownBy wr none) (fun _ _ => 0)
  case atStart => exact ⟨rfl, hg3⟩
  obtain ⟨rfl, hg⟩ := hrel
  go_wp2
  go_loopw [9] (fun i wr => i = .int .i64 0 ∧ w.grownBy wr none) (fun _ _ => 0)
  case atStart => exact ⟨rfl, hg⟩
  obtain ⟨rfl, hg⟩ := hrel
  go_wp2
  go_loopw [11] (fun i wr => i = .int .i64 0 ∧ w.grownBy wr none) (fun _ _ => 0)
  case atStart => exact ⟨rfl, hg⟩
  obtain ⟨rfl, hg⟩ := hrel
  go_wp2
  go_loopw [14] (fun i wr => i = .int .i64 0 ∧ w.grownBy wr none) (fun _ _ => 0)
  case atStart => exact ⟨rfl, hg⟩
  obtain ⟨rfl, hg⟩ := hrel
  go_wp2
  go_ret
  exact ⟨rfl, hg⟩
set_option maxRecDepth 100000 in
set_option maxHeartbeats 4000000 in
theorem flatInts_nil (w : World) : Calls Tryz.prog 34 #[.slice none 0 0] w fun e w' => e = .returned (.bool true) ∧ w.grownBy w' none := by
  go_enter Tryz.func34, Tryz.ntmps34
  go_wp2
  go_loopw [3] (fun i wr => i = .int .i64 0 ∧ w.grownBy wr none) (fun _ _ => 0)
  case atStart => exact ⟨rfl, gb_refl _ _⟩
  obtain ⟨rfl, hg⟩ := hrel
  obtain ⟨w2, hmk, hg2⟩ := make_none 45 109 Tryz.underlying45 (by kernel_rfl) wr
  have hg3 := gb_trans hg hg2
  go_wp2
  go_loopw [6] (fun i wr => i = .int .i64 0 ∧ w.grownBy wr none) (fun _ _ => 0)
  case atStart => exact ⟨rfl, hg3⟩
  obtain ⟨rfl, hg⟩ := hrel
  go_wp2
  go_loopw [9] (fun i wr => i = .int .i64 0 ∧ w.grownBy wr none) (fun _ _ => 0)
  case atStart => exact ⟨rfl, hg⟩
  obtain ⟨rfl, hg⟩ := hrel
  go_wp2
  go_loopw [11] (fun i wr => i = .int .i64 0 ∧ w.grownBy wr none) (fun _ _ => 0)
  case atStart => exact ⟨rfl, hg⟩
  obtain ⟨rfl, hg⟩ := hrel
  go_wp2
  go_loopw [14] (fun i wr => i = .int .i64 0 ∧ w.grownBy wr none) (fun _ _ => 0)
  case atStart => exact ⟨rfl, hg⟩
  obtain ⟨rfl, hg⟩ := hrel
  go_wp2
  go_ret
  exact ⟨rfl, hg⟩
set_option maxRecDepth 100000 in
set_option maxHeartbeats 4000000 in
theorem flatLongs_nil (w : World) : Calls Tryz.prog 35 #[.slice none 0 0] w fun e w' => e = .returned (.bool true) ∧ w.grownBy w' none := by
  go_enter Tryz.func35, Tryz.ntmps35
  go_wp2
  go_loopw [3] (fun i wr => i = .int .i64 0 ∧ w.grownBy wr none) (fun _ _ => 0)
  case atStart => exact ⟨rfl, gb_refl _ _⟩
  obtain ⟨rfl, hg⟩ := hrel
  obtain ⟨w2, hmk, hg2⟩ := make_none 46 110 Tryz.underlying46 (by kernel_rfl) wr
  have hg3 := gb_trans hg hg2
  go_wp2
  go_loopw [6] (fun i wr => i = .int .i64 0 ∧ w.grownBy wr none) (fun _ _ => 0)
  case atStart => exact ⟨rfl, hg3⟩
  obtain ⟨rfl, hg⟩ := hrel
  go_wp2
  go_loopw [9] (fun i wr => i = .int .i64 0 ∧ w.grownBy wr none) (fun _ _ => 0)
  case atStart => exact ⟨rfl, hg⟩
  obtain ⟨rfl, hg⟩ := hrel
  go_wp2
  go_loopw [11] (fun i wr => i = .int .i64 0 ∧ w.grownBy wr none) (fun _ _ => 0)
  case atStart => exact ⟨rfl, hg⟩
  obtain ⟨rfl, hg⟩ := hrel
  go_wp2
  go_loopw [14] (fun i wr => i = .int .i64 0 ∧ w.grownBy wr none) (fun _ _ => 0)
  case atStart => exact ⟨rfl, hg⟩
  obtain ⟨rfl, hg⟩ := hrel
  go_wp2
  go_ret
  exact ⟨rfl, hg⟩
set_option maxRecDepth 100000 in
set_option maxHeartbeats 4000000 in
theorem flatTexts_nil (w : World) : Calls Tryz.prog 36 #[.slice none 0 0] w fun e w' => e = .returned (.bool true) ∧ w.grownBy w' none := by
  go_enter Tryz.func36, Tryz.ntmps36
  go_wp2
  go_loopw [3] (fun i wr => i = .int .i64 0 ∧ w.grownBy wr none) (fun _ _ => 0)
  case atStart => exact ⟨rfl, gb_refl _ _⟩
  obtain ⟨rfl, hg⟩ := hrel
  obtain ⟨w2, hmk, hg2⟩ := make_none 47 111 Tryz.underlying47 (by kernel_rfl) wr
  have hg3 := gb_trans hg hg2
  go_wp2
  go_loopw [6] (fun i wr => i = .int .i64 0 ∧ w.grownBy wr none) (fun _ _ => 0)
  case atStart => exact ⟨rfl, hg3⟩
  obtain ⟨rfl, hg⟩ := hrel
  go_wp2
  go_loopw [9] (fun i wr => i = .int .i64 0 ∧ w.grownBy wr none) (fun _ _ => 0)
  case atStart => exact ⟨rfl, hg⟩
  obtain ⟨rfl, hg⟩ := hrel
  go_wp2
  go_loopw [11] (fun i wr => i = .int .i64 0 ∧ w.grownBy wr none) (fun _ _ => 0)
  case atStart => exact ⟨rfl, hg⟩
  obtain ⟨rfl, hg⟩ := hrel
  go_wp2
  go_loopw [14] (fun i wr => i = .int .i64 0 ∧ w.grownBy wr none) (fun _ _ => 0)
  case atStart => exact ⟨rfl, hg⟩
  obtain ⟨rfl, hg⟩ := hrel
  go_wp2
  go_ret
  exact ⟨rfl, hg⟩
set_option maxRecDepth 100000 in
set_option maxHeartbeats 4000000 in
theorem flatBytes_nil (w : World) : Calls Tryz.prog 37 #[.slice none 0 0] w fun e w' => e = .returned (.bool true) ∧ w.grownBy w' none := by
  go_enter Tryz.func37, Tryz.ntmps37
  go_wp2
  go_loopw [3] (fun i wr => i = .int .i64 0 ∧ w.grownBy wr none) (fun _ _ => 0)
  case atStart => exact ⟨rfl, gb_refl _ _⟩
  obtain ⟨rfl, hg⟩ := hrel
  obtain ⟨w2, hmk, hg2⟩ := make_none 22 26 Tryz.underlying22 (by kernel_rfl) wr
  have hg3 := gb_trans hg hg2
  go_wp2
  go_loopw [6] (fun i wr => i = .int .i64 0 ∧ w.grownBy wr none) (fun _ _ => 0)
  case atStart => exact ⟨rfl, hg3⟩
  obtain ⟨rfl, hg⟩ := hrel
  go_wp2
  go_loopw [9] (fun i wr => i = .int .i64 0 ∧ w.grownBy wr none) (fun _ _ => 0)
  case atStart => exact ⟨rfl, hg⟩
  obtain ⟨rfl, hg⟩ := hrel
  go_wp2
  go_loopw [11] (fun i wr => i = .int .i64 0 ∧ w.grownBy wr none) (fun _ _ => 0)
  case atStart => exact ⟨rfl, hg⟩
  obtain ⟨rfl, hg⟩ := hrel
  go_wp2
  go_loopw [14] (fun i wr => i = .int .i64 0 ∧ w.grownBy wr none) (fun _ _ => 0)
  case atStart => exact ⟨rfl, hg⟩
  obtain ⟨rfl, hg⟩ := hrel
  go_wp2
  go_ret
  exact ⟨rfl, hg⟩
set_option maxRecDepth 100000 in
set_option maxHeartbeats 4000000 in
theorem flatTruths_nil (w : World) : Calls Tryz.prog 38 #[.slice none 0 0] w fun e w' => e = .returned (.bool true) ∧ w.grownBy w' none := by
  go_enter Tryz.func38, Tryz.ntmps38
  go_wp2
  go_loopw [3] (fun i wr => i = .int .i64 0 ∧ w.grownBy wr none) (fun _ _ => 0)
  case atStart => exact ⟨rfl, gb_refl _ _⟩
  obtain ⟨rfl, hg⟩ := hrel
  obtain ⟨w2, hmk, hg2⟩ := make_none 48 112 Tryz.underlying48 (by kernel_rfl) wr
  have hg3 := gb_trans hg hg2
  go_wp2
  go_loopw [6] (fun i wr => i = .int .i64 0 ∧ w.grownBy wr none) (fun _ _ => 0)
  case atStart => exact ⟨rfl, hg3⟩
  obtain ⟨rfl, hg⟩ := hrel
  go_wp2
  go_loopw [9] (fun i wr => i = .int .i64 0 ∧ w.grownBy wr none) (fun _ _ => 0)
  case atStart => exact ⟨rfl, hg⟩
  obtain ⟨rfl, hg⟩ := hrel
  go_wp2
  go_loopw [11] (fun i wr => i = .int .i64 0 ∧ w.grownBy wr none) (fun _ _ => 0)
  case atStart => exact ⟨rfl, hg⟩
  obtain ⟨rfl, hg⟩ := hrel
  go_wp2
  go_loopw [14] (fun i wr => i = .int .i64 0 ∧ w.grownBy wr none) (fun _ _ => 0)
  case atStart => exact ⟨rfl, hg⟩
  obtain ⟨rfl, hg⟩ := hrel
  go_wp2
  go_ret
  exact ⟨rfl, hg⟩
set_option maxRecDepth 100000 in
set_option maxHeartbeats 4000000 in
theorem flatRows_nil (w : World) : Calls Tryz.prog 39 #[.slice none 0 0] w fun e w' => e = .returned (.bool true) ∧ w.grownBy w' none := by
  go_enter Tryz.func39, Tryz.ntmps39
  go_wp2
  go_loopw [3] (fun i wr => i = .int .i64 0 ∧ w.grownBy wr none) (fun _ _ => 0)
  case atStart => exact ⟨rfl, gb_refl _ _⟩
  obtain ⟨rfl, hg⟩ := hrel
  obtain ⟨w2, hmk, hg2⟩ := make_none 49 22 Tryz.underlying49 (by kernel_rfl) wr
  have hg3 := gb_trans hg hg2
  go_wp2
  go_loopw [6] (fun i wr => i = .int .i64 0 ∧ w.grownBy wr none) (fun _ _ => 0)
  case atStart => exact ⟨rfl, hg3⟩
  obtain ⟨rfl, hg⟩ := hrel
  go_wp2
  go_loopw [9] (fun i wr => i = .int .i64 0 ∧ w.grownBy wr none) (fun _ _ => 0)
  case atStart => exact ⟨rfl, hg⟩
  obtain ⟨rfl, hg⟩ := hrel
  go_wp2
  go_loopw [11] (fun i wr => i = .int .i64 0 ∧ w.grownBy wr none) (fun _ _ => 0)
  case atStart => exact ⟨rfl, hg⟩
  obtain ⟨rfl, hg⟩ := hrel
  go_wp2
  go_loopw [14] (fun i wr => i = .int .i64 0 ∧ w.grownBy wr none) (fun _ _ => 0)
  case atStart => exact ⟨rfl, hg⟩
  obtain ⟨rfl, hg⟩ := hrel
  go_wp2
  go_ret
  exact ⟨rfl, hg⟩
set_option maxRecDepth 100000 in
set_option maxHeartbeats 4000000 in
theorem flatDots_nil (w : World) : Calls Tryz.prog 40 #[.slice none 0 0] w fun e w' => e = .returned (.bool true) ∧ w.grownBy w' none := by
  go_enter Tryz.func40, Tryz.ntmps40
  go_wp2
  go_loopw [3] (fun i wr => i = .int .i64 0 ∧ w.grownBy wr none) (fun _ _ => 0)
  case atStart => exact ⟨rfl, gb_refl _ _⟩
  obtain ⟨rfl, hg⟩ := hrel
  obtain ⟨w2, hmk, hg2⟩ := make_none 50 113 Tryz.underlying50 (by kernel_rfl) wr
  have hg3 := gb_trans hg hg2
  go_wp2
  go_loopw [6] (fun i wr => i = .int .i64 0 ∧ w.grownBy wr none) (fun _ _ => 0)
  case atStart => exact ⟨rfl, hg3⟩
  obtain ⟨rfl, hg⟩ := hrel
  go_wp2
  go_loopw [9] (fun i wr => i = .int .i64 0 ∧ w.grownBy wr none) (fun _ _ => 0)
  case atStart => exact ⟨rfl, hg⟩
  obtain ⟨rfl, hg⟩ := hrel
  go_wp2
  go_loopw [11] (fun i wr => i = .int .i64 0 ∧ w.grownBy wr none) (fun _ _ => 0)
  case atStart => exact ⟨rfl, hg⟩
  obtain ⟨rfl, hg⟩ := hrel
  go_wp2
  go_loopw [14] (fun i wr => i = .int .i64 0 ∧ w.grownBy wr none) (fun _ _ => 0)
  case atStart => exact ⟨rfl, hg⟩
  obtain ⟨rfl, hg⟩ := hrel
  go_wp2
  go_ret
  exact ⟨rfl, hg⟩
set_option maxRecDepth 100000 in
set_option maxHeartbeats 4000000 in
theorem flatRecords_nil (w : World) : Calls Tryz.prog 41 #[.slice none 0 0] w fun e w' => e = .returned (.bool true) ∧ w.grownBy w' none := by
  go_enter Tryz.func41, Tryz.ntmps41
  go_wp2
  go_loopw [3] (fun i wr => i = .int .i64 0 ∧ w.grownBy wr none) (fun _ _ => 0)
  case atStart => exact ⟨rfl, gb_refl _ _⟩
  obtain ⟨rfl, hg⟩ := hrel
  obtain ⟨w2, hmk, hg2⟩ := make_none 51 117 Tryz.underlying51 (by kernel_rfl) wr
  have hg3 := gb_trans hg hg2
  go_wp2
  go_loopw [6] (fun i wr => i = .int .i64 0 ∧ w.grownBy wr none) (fun _ _ => 0)
  case atStart => exact ⟨rfl, hg3⟩
  obtain ⟨rfl, hg⟩ := hrel
  go_wp2
  go_loopw [9] (fun i wr => i = .int .i64 0 ∧ w.grownBy wr none) (fun _ _ => 0)
  case atStart => exact ⟨rfl, hg⟩
  obtain ⟨rfl, hg⟩ := hrel
  go_wp2
  go_loopw [11] (fun i wr => i = .int .i64 0 ∧ w.grownBy wr none) (fun _ _ => 0)
  case atStart => exact ⟨rfl, hg⟩
  obtain ⟨rfl, hg⟩ := hrel
  go_wp2
  go_loopw [14] (fun i wr => i = .int .i64 0 ∧ w.grownBy wr none) (fun _ _ => 0)
  case atStart => exact ⟨rfl, hg⟩
  obtain ⟨rfl, hg⟩ := hrel
  go_wp2
  go_ret
  exact ⟨rfl, hg⟩
set_option maxRecDepth 100000 in
set_option maxHeartbeats 4000000 in
theorem flatLeaves_nil (w : World) : Calls Tryz.prog 42 #[.slice none 0 0] w fun e w' => e = .returned (.bool true) ∧ w.grownBy w' none := by
  go_enter Tryz.func42, Tryz.ntmps42
  go_wp2
  go_loopw [3] (fun i wr => i = .int .i64 0 ∧ w.grownBy wr none) (fun _ _ => 0)
  case atStart => exact ⟨rfl, gb_refl _ _⟩
  obtain ⟨rfl, hg⟩ := hrel
  obtain ⟨w2, hmk, hg2⟩ := make_none 52 122 Tryz.underlying52 (by kernel_rfl) wr
  have hg3 := gb_trans hg hg2
  go_wp2
  go_loopw [6] (fun i wr => i = .int .i64 0 ∧ w.grownBy wr none) (fun _ _ => 0)
  case atStart => exact ⟨rfl, hg3⟩
  obtain ⟨rfl, hg⟩ := hrel
  go_wp2
  go_loopw [9] (fun i wr => i = .int .i64 0 ∧ w.grownBy wr none) (fun _ _ => 0)
  case atStart => exact ⟨rfl, hg⟩
  obtain ⟨rfl, hg⟩ := hrel
  go_wp2
  go_loopw [11] (fun i wr => i = .int .i64 0 ∧ w.grownBy wr none) (fun _ _ => 0)
  case atStart => exact ⟨rfl, hg⟩
  obtain ⟨rfl, hg⟩ := hrel
  go_wp2
  go_loopw [14] (fun i wr => i = .int .i64 0 ∧ w.grownBy wr none) (fun _ _ => 0)
  case atStart => exact ⟨rfl, hg⟩
  obtain ⟨rfl, hg⟩ := hrel
  go_wp2
  go_ret
  exact ⟨rfl, hg⟩
set_option maxRecDepth 100000 in
set_option maxHeartbeats 4000000 in
theorem flatGrants_nil (w : World) : Calls Tryz.prog 43 #[.slice none 0 0] w fun e w' => e = .returned (.bool true) ∧ w.grownBy w' none := by
  go_enter Tryz.func43, Tryz.ntmps43
  go_wp2
  go_loopw [3] (fun i wr => i = .int .i64 0 ∧ w.grownBy wr none) (fun _ _ => 0)
  case atStart => exact ⟨rfl, gb_refl _ _⟩
  obtain ⟨rfl, hg⟩ := hrel
  obtain ⟨w2, hmk, hg2⟩ := make_none 53 127 Tryz.underlying53 (by kernel_rfl) wr
  have hg3 := gb_trans hg hg2
  go_wp2
  go_loopw [6] (fun i wr => i = .int .i64 0 ∧ w.grownBy wr none) (fun _ _ => 0)
  case atStart => exact ⟨rfl, hg3⟩
  obtain ⟨rfl, hg⟩ := hrel
  go_wp2
  go_loopw [9] (fun i wr => i = .int .i64 0 ∧ w.grownBy wr none) (fun _ _ => 0)
  case atStart => exact ⟨rfl, hg⟩
  obtain ⟨rfl, hg⟩ := hrel
  go_wp2
  go_loopw [11] (fun i wr => i = .int .i64 0 ∧ w.grownBy wr none) (fun _ _ => 0)
  case atStart => exact ⟨rfl, hg⟩
  obtain ⟨rfl, hg⟩ := hrel
  go_wp2
  go_loopw [14] (fun i wr => i = .int .i64 0 ∧ w.grownBy wr none) (fun _ _ => 0)
  case atStart => exact ⟨rfl, hg⟩
  obtain ⟨rfl, hg⟩ := hrel
  go_wp2
  go_ret
  exact ⟨rfl, hg⟩
set_option maxRecDepth 100000 in
set_option maxHeartbeats 4000000 in
theorem flatNodes_nil (w : World) : Calls Tryz.prog 44 #[.slice none 0 0] w fun e w' => e = .returned (.bool true) ∧ w.grownBy w' none := by
  go_enter Tryz.func44, Tryz.ntmps44
  go_wp2
  go_loopw [3] (fun i wr => i = .int .i64 0 ∧ w.grownBy wr none) (fun _ _ => 0)
  case atStart => exact ⟨rfl, gb_refl _ _⟩
  obtain ⟨rfl, hg⟩ := hrel
  obtain ⟨w2, hmk, hg2⟩ := make_none 54 132 Tryz.underlying54 (by kernel_rfl) wr
  have hg3 := gb_trans hg hg2
  go_wp2
  go_loopw [6] (fun i wr => i = .int .i64 0 ∧ w.grownBy wr none) (fun _ _ => 0)
  case atStart => exact ⟨rfl, hg3⟩
  obtain ⟨rfl, hg⟩ := hrel
  go_wp2
  go_loopw [9] (fun i wr => i = .int .i64 0 ∧ w.grownBy wr none) (fun _ _ => 0)
  case atStart => exact ⟨rfl, hg⟩
  obtain ⟨rfl, hg⟩ := hrel
  go_wp2
  go_loopw [11] (fun i wr => i = .int .i64 0 ∧ w.grownBy wr none) (fun _ _ => 0)
  case atStart => exact ⟨rfl, hg⟩
  obtain ⟨rfl, hg⟩ := hrel
  go_wp2
  go_loopw [14] (fun i wr => i = .int .i64 0 ∧ w.grownBy wr none) (fun _ _ => 0)
  case atStart => exact ⟨rfl, hg⟩
  obtain ⟨rfl, hg⟩ := hrel
  go_wp2
  go_ret
  exact ⟨rfl, hg⟩
set_option maxRecDepth 100000 in
set_option maxHeartbeats 4000000 in
theorem flatStubs_nil (w : World) : Calls Tryz.prog 45 #[.slice none 0 0] w fun e w' => e = .returned (.bool true) ∧ w.grownBy w' none := by
  go_enter Tryz.func45, Tryz.ntmps45
  go_wp2
  go_loopw [3] (fun i wr => i = .int .i64 0 ∧ w.grownBy wr none) (fun _ _ => 0)
  case atStart => exact ⟨rfl, gb_refl _ _⟩
  obtain ⟨rfl, hg⟩ := hrel
  obtain ⟨w2, hmk, hg2⟩ := make_none 55 138 Tryz.underlying55 (by kernel_rfl) wr
  have hg3 := gb_trans hg hg2
  go_wp2
  go_loopw [6] (fun i wr => i = .int .i64 0 ∧ w.grownBy wr none) (fun _ _ => 0)
  case atStart => exact ⟨rfl, hg3⟩
  obtain ⟨rfl, hg⟩ := hrel
  go_wp2
  go_loopw [9] (fun i wr => i = .int .i64 0 ∧ w.grownBy wr none) (fun _ _ => 0)
  case atStart => exact ⟨rfl, hg⟩
  obtain ⟨rfl, hg⟩ := hrel
  go_wp2
  go_loopw [11] (fun i wr => i = .int .i64 0 ∧ w.grownBy wr none) (fun _ _ => 0)
  case atStart => exact ⟨rfl, hg⟩
  obtain ⟨rfl, hg⟩ := hrel
  go_wp2
  go_loopw [14] (fun i wr => i = .int .i64 0 ∧ w.grownBy wr none) (fun _ _ => 0)
  case atStart => exact ⟨rfl, hg⟩
  obtain ⟨rfl, hg⟩ := hrel
  go_wp2
  go_ret
  exact ⟨rfl, hg⟩
set_option maxRecDepth 100000 in
set_option maxHeartbeats 4000000 in
theorem flatProofs_nil (w : World) : Calls Tryz.prog 46 #[.slice none 0 0] w fun e w' => e = .returned (.bool true) ∧ w.grownBy w' none := by
  go_enter Tryz.func46, Tryz.ntmps46
  go_wp2
  go_loopw [3] (fun i wr => i = .int .i64 0 ∧ w.grownBy wr none) (fun _ _ => 0)
  case atStart => exact ⟨rfl, gb_refl _ _⟩
  obtain ⟨rfl, hg⟩ := hrel
  obtain ⟨w2, hmk, hg2⟩ := make_none 56 143 Tryz.underlying56 (by kernel_rfl) wr
  have hg3 := gb_trans hg hg2
  go_wp2
  go_loopw [6] (fun i wr => i = .int .i64 0 ∧ w.grownBy wr none) (fun _ _ => 0)
  case atStart => exact ⟨rfl, hg3⟩
  obtain ⟨rfl, hg⟩ := hrel
  go_wp2
  go_loopw [9] (fun i wr => i = .int .i64 0 ∧ w.grownBy wr none) (fun _ _ => 0)
  case atStart => exact ⟨rfl, hg⟩
  obtain ⟨rfl, hg⟩ := hrel
  go_wp2
  go_loopw [11] (fun i wr => i = .int .i64 0 ∧ w.grownBy wr none) (fun _ _ => 0)
  case atStart => exact ⟨rfl, hg⟩
  obtain ⟨rfl, hg⟩ := hrel
  go_wp2
  go_loopw [14] (fun i wr => i = .int .i64 0 ∧ w.grownBy wr none) (fun _ _ => 0)
  case atStart => exact ⟨rfl, hg⟩
  obtain ⟨rfl, hg⟩ := hrel
  go_wp2
  go_ret
  exact ⟨rfl, hg⟩
set_option maxRecDepth 100000 in
set_option maxHeartbeats 4000000 in
theorem flatRoots_nil (w : World) : Calls Tryz.prog 47 #[.slice none 0 0] w fun e w' => e = .returned (.bool true) ∧ w.grownBy w' none := by
  go_enter Tryz.func47, Tryz.ntmps47
  go_wp2
  go_loopw [3] (fun i wr => i = .int .i64 0 ∧ w.grownBy wr none) (fun _ _ => 0)
  case atStart => exact ⟨rfl, gb_refl _ _⟩
  obtain ⟨rfl, hg⟩ := hrel
  obtain ⟨w2, hmk, hg2⟩ := make_none 57 148 Tryz.underlying57 (by kernel_rfl) wr
  have hg3 := gb_trans hg hg2
  go_wp2
  go_loopw [6] (fun i wr => i = .int .i64 0 ∧ w.grownBy wr none) (fun _ _ => 0)
  case atStart => exact ⟨rfl, hg3⟩
  obtain ⟨rfl, hg⟩ := hrel
  go_wp2
  go_loopw [9] (fun i wr => i = .int .i64 0 ∧ w.grownBy wr none) (fun _ _ => 0)
  case atStart => exact ⟨rfl, hg⟩
  obtain ⟨rfl, hg⟩ := hrel
  go_wp2
  go_loopw [11] (fun i wr => i = .int .i64 0 ∧ w.grownBy wr none) (fun _ _ => 0)
  case atStart => exact ⟨rfl, hg⟩
  obtain ⟨rfl, hg⟩ := hrel
  go_wp2
  go_loopw [14] (fun i wr => i = .int .i64 0 ∧ w.grownBy wr none) (fun _ _ => 0)
  case atStart => exact ⟨rfl, hg⟩
  obtain ⟨rfl, hg⟩ := hrel
  go_wp2
  go_ret
  exact ⟨rfl, hg⟩
set_option maxRecDepth 100000 in
set_option maxHeartbeats 4000000 in
theorem flatEvidenceRow_nil (w : World) : Calls Tryz.prog 48 #[.slice none 0 0] w fun e w' => e = .returned (.bool true) ∧ w.grownBy w' none := by
  go_enter Tryz.func48, Tryz.ntmps48
  go_wp2
  go_loopw [3] (fun i wr => i = .int .i64 0 ∧ w.grownBy wr none) (fun _ _ => 0)
  case atStart => exact ⟨rfl, gb_refl _ _⟩
  obtain ⟨rfl, hg⟩ := hrel
  obtain ⟨w2, hmk, hg2⟩ := make_none 58 153 Tryz.underlying58 (by kernel_rfl) wr
  have hg3 := gb_trans hg hg2
  go_wp2
  go_loopw [6] (fun i wr => i = .int .i64 0 ∧ w.grownBy wr none) (fun _ _ => 0)
  case atStart => exact ⟨rfl, hg3⟩
  obtain ⟨rfl, hg⟩ := hrel
  go_wp2
  go_loopw [9] (fun i wr => i = .int .i64 0 ∧ w.grownBy wr none) (fun _ _ => 0)
  case atStart => exact ⟨rfl, hg⟩
  obtain ⟨rfl, hg⟩ := hrel
  go_wp2
  go_loopw [11] (fun i wr => i = .int .i64 0 ∧ w.grownBy wr none) (fun _ _ => 0)
  case atStart => exact ⟨rfl, hg⟩
  obtain ⟨rfl, hg⟩ := hrel
  go_wp2
  go_loopw [14] (fun i wr => i = .int .i64 0 ∧ w.grownBy wr none) (fun _ _ => 0)
  case atStart => exact ⟨rfl, hg⟩
  obtain ⟨rfl, hg⟩ := hrel
  go_wp2
  go_ret
  exact ⟨rfl, hg⟩
set_option maxRecDepth 100000 in
set_option maxHeartbeats 4000000 in
theorem flatFrames_nil (w : World) : Calls Tryz.prog 49 #[.slice none 0 0] w fun e w' => e = .returned (.bool true) ∧ w.grownBy w' none := by
  go_enter Tryz.func49, Tryz.ntmps49
  go_wp2
  go_loopw [3] (fun i wr => i = .int .i64 0 ∧ w.grownBy wr none) (fun _ _ => 0)
  case atStart => exact ⟨rfl, gb_refl _ _⟩
  obtain ⟨rfl, hg⟩ := hrel
  obtain ⟨w2, hmk, hg2⟩ := make_none 59 158 Tryz.underlying59 (by kernel_rfl) wr
  have hg3 := gb_trans hg hg2
  go_wp2
  go_loopw [6] (fun i wr => i = .int .i64 0 ∧ w.grownBy wr none) (fun _ _ => 0)
  case atStart => exact ⟨rfl, hg3⟩
  obtain ⟨rfl, hg⟩ := hrel
  go_wp2
  go_loopw [9] (fun i wr => i = .int .i64 0 ∧ w.grownBy wr none) (fun _ _ => 0)
  case atStart => exact ⟨rfl, hg⟩
  obtain ⟨rfl, hg⟩ := hrel
  go_wp2
  go_loopw [11] (fun i wr => i = .int .i64 0 ∧ w.grownBy wr none) (fun _ _ => 0)
  case atStart => exact ⟨rfl, hg⟩
  obtain ⟨rfl, hg⟩ := hrel
  go_wp2
  go_loopw [14] (fun i wr => i = .int .i64 0 ∧ w.grownBy wr none) (fun _ _ => 0)
  case atStart => exact ⟨rfl, hg⟩
  obtain ⟨rfl, hg⟩ := hrel
  go_wp2
  go_ret
  exact ⟨rfl, hg⟩
set_option maxRecDepth 100000 in
set_option maxHeartbeats 4000000 in
theorem flatPackets_nil (w : World) : Calls Tryz.prog 50 #[.slice none 0 0] w fun e w' => e = .returned (.bool true) ∧ w.grownBy w' none := by
  go_enter Tryz.func50, Tryz.ntmps50
  go_wp2
  go_loopw [3] (fun i wr => i = .int .i64 0 ∧ w.grownBy wr none) (fun _ _ => 0)
  case atStart => exact ⟨rfl, gb_refl _ _⟩
  obtain ⟨rfl, hg⟩ := hrel
  obtain ⟨w2, hmk, hg2⟩ := make_none 60 164 Tryz.underlying60 (by kernel_rfl) wr
  have hg3 := gb_trans hg hg2
  go_wp2
  go_loopw [6] (fun i wr => i = .int .i64 0 ∧ w.grownBy wr none) (fun _ _ => 0)
  case atStart => exact ⟨rfl, hg3⟩
  obtain ⟨rfl, hg⟩ := hrel
  go_wp2
  go_loopw [9] (fun i wr => i = .int .i64 0 ∧ w.grownBy wr none) (fun _ _ => 0)
  case atStart => exact ⟨rfl, hg⟩
  obtain ⟨rfl, hg⟩ := hrel
  go_wp2
  go_loopw [11] (fun i wr => i = .int .i64 0 ∧ w.grownBy wr none) (fun _ _ => 0)
  case atStart => exact ⟨rfl, hg⟩
  obtain ⟨rfl, hg⟩ := hrel
  go_wp2
  go_loopw [14] (fun i wr => i = .int .i64 0 ∧ w.grownBy wr none) (fun _ _ => 0)
  case atStart => exact ⟨rfl, hg⟩
  obtain ⟨rfl, hg⟩ := hrel
  go_wp2
  go_ret
  exact ⟨rfl, hg⟩
set_option maxRecDepth 100000 in
set_option maxHeartbeats 4000000 in
theorem flatEntries_nil (w : World) : Calls Tryz.prog 51 #[.slice none 0 0] w fun e w' => e = .returned (.bool true) ∧ w.grownBy w' none := by
  go_enter Tryz.func51, Tryz.ntmps51
  go_wp2
  go_loopw [3] (fun i wr => i = .int .i64 0 ∧ w.grownBy wr none) (fun _ _ => 0)
  case atStart => exact ⟨rfl, gb_refl _ _⟩
  obtain ⟨rfl, hg⟩ := hrel
  obtain ⟨w2, hmk, hg2⟩ := make_none 61 169 Tryz.underlying61 (by kernel_rfl) wr
  have hg3 := gb_trans hg hg2
  go_wp2
  go_loopw [6] (fun i wr => i = .int .i64 0 ∧ w.grownBy wr none) (fun _ _ => 0)
  case atStart => exact ⟨rfl, hg3⟩
  obtain ⟨rfl, hg⟩ := hrel
  go_wp2
  go_loopw [9] (fun i wr => i = .int .i64 0 ∧ w.grownBy wr none) (fun _ _ => 0)
  case atStart => exact ⟨rfl, hg⟩
  obtain ⟨rfl, hg⟩ := hrel
  go_wp2
  go_loopw [11] (fun i wr => i = .int .i64 0 ∧ w.grownBy wr none) (fun _ _ => 0)
  case atStart => exact ⟨rfl, hg⟩
  obtain ⟨rfl, hg⟩ := hrel
  go_wp2
  go_loopw [14] (fun i wr => i = .int .i64 0 ∧ w.grownBy wr none) (fun _ _ => 0)
  case atStart => exact ⟨rfl, hg⟩
  obtain ⟨rfl, hg⟩ := hrel
  go_wp2
  go_ret
  exact ⟨rfl, hg⟩
set_option maxRecDepth 100000 in
set_option maxHeartbeats 4000000 in
theorem flatHeldRow_nil (w : World) : Calls Tryz.prog 52 #[.slice none 0 0] w fun e w' => e = .returned (.bool true) ∧ w.grownBy w' none := by
  go_enter Tryz.func52, Tryz.ntmps52
  go_wp2
  go_loopw [3] (fun i wr => i = .int .i64 0 ∧ w.grownBy wr none) (fun _ _ => 0)
  case atStart => exact ⟨rfl, gb_refl _ _⟩
  obtain ⟨rfl, hg⟩ := hrel
  obtain ⟨w2, hmk, hg2⟩ := make_none 62 175 Tryz.underlying62 (by kernel_rfl) wr
  have hg3 := gb_trans hg hg2
  go_wp2
  go_loopw [6] (fun i wr => i = .int .i64 0 ∧ w.grownBy wr none) (fun _ _ => 0)
  case atStart => exact ⟨rfl, hg3⟩
  obtain ⟨rfl, hg⟩ := hrel
  go_wp2
  go_loopw [9] (fun i wr => i = .int .i64 0 ∧ w.grownBy wr none) (fun _ _ => 0)
  case atStart => exact ⟨rfl, hg⟩
  obtain ⟨rfl, hg⟩ := hrel
  go_wp2
  go_loopw [11] (fun i wr => i = .int .i64 0 ∧ w.grownBy wr none) (fun _ _ => 0)
  case atStart => exact ⟨rfl, hg⟩
  obtain ⟨rfl, hg⟩ := hrel
  go_wp2
  go_loopw [14] (fun i wr => i = .int .i64 0 ∧ w.grownBy wr none) (fun _ _ => 0)
  case atStart => exact ⟨rfl, hg⟩
  obtain ⟨rfl, hg⟩ := hrel
  go_wp2
  go_ret
  exact ⟨rfl, hg⟩
set_option maxRecDepth 100000 in
set_option maxHeartbeats 4000000 in
theorem flatConfigs_nil (w : World) : Calls Tryz.prog 53 #[.slice none 0 0] w fun e w' => e = .returned (.bool true) ∧ w.grownBy w' none := by
  go_enter Tryz.func53, Tryz.ntmps53
  go_wp2
  go_loopw [3] (fun i wr => i = .int .i64 0 ∧ w.grownBy wr none) (fun _ _ => 0)
  case atStart => exact ⟨rfl, gb_refl _ _⟩
  obtain ⟨rfl, hg⟩ := hrel
  obtain ⟨w2, hmk, hg2⟩ := make_none 63 180 Tryz.underlying63 (by kernel_rfl) wr
  have hg3 := gb_trans hg hg2
  go_wp2
  go_loopw [6] (fun i wr => i = .int .i64 0 ∧ w.grownBy wr none) (fun _ _ => 0)
  case atStart => exact ⟨rfl, hg3⟩
  obtain ⟨rfl, hg⟩ := hrel
  go_wp2
  go_loopw [9] (fun i wr => i = .int .i64 0 ∧ w.grownBy wr none) (fun _ _ => 0)
  case atStart => exact ⟨rfl, hg⟩
  obtain ⟨rfl, hg⟩ := hrel
  go_wp2
  go_loopw [11] (fun i wr => i = .int .i64 0 ∧ w.grownBy wr none) (fun _ _ => 0)
  case atStart => exact ⟨rfl, hg⟩
  obtain ⟨rfl, hg⟩ := hrel
  go_wp2
  go_loopw [14] (fun i wr => i = .int .i64 0 ∧ w.grownBy wr none) (fun _ _ => 0)
  case atStart => exact ⟨rfl, hg⟩
  obtain ⟨rfl, hg⟩ := hrel
  go_wp2
  go_ret
  exact ⟨rfl, hg⟩
set_option maxRecDepth 100000 in
set_option maxHeartbeats 4000000 in
theorem flatSteps_nil (w : World) : Calls Tryz.prog 54 #[.slice none 0 0] w fun e w' => e = .returned (.bool true) ∧ w.grownBy w' none := by
  go_enter Tryz.func54, Tryz.ntmps54
  go_wp2
  go_loopw [3] (fun i wr => i = .int .i64 0 ∧ w.grownBy wr none) (fun _ _ => 0)
  case atStart => exact ⟨rfl, gb_refl _ _⟩
  obtain ⟨rfl, hg⟩ := hrel
  obtain ⟨w2, hmk, hg2⟩ := make_none 64 185 Tryz.underlying64 (by kernel_rfl) wr
  have hg3 := gb_trans hg hg2
  go_wp2
  go_loopw [6] (fun i wr => i = .int .i64 0 ∧ w.grownBy wr none) (fun _ _ => 0)
  case atStart => exact ⟨rfl, hg3⟩
  obtain ⟨rfl, hg⟩ := hrel
  go_wp2
  go_loopw [9] (fun i wr => i = .int .i64 0 ∧ w.grownBy wr none) (fun _ _ => 0)
  case atStart => exact ⟨rfl, hg⟩
  obtain ⟨rfl, hg⟩ := hrel
  go_wp2
  go_loopw [11] (fun i wr => i = .int .i64 0 ∧ w.grownBy wr none) (fun _ _ => 0)
  case atStart => exact ⟨rfl, hg⟩
  obtain ⟨rfl, hg⟩ := hrel
  go_wp2
  go_loopw [14] (fun i wr => i = .int .i64 0 ∧ w.grownBy wr none) (fun _ _ => 0)
  case atStart => exact ⟨rfl, hg⟩
  obtain ⟨rfl, hg⟩ := hrel
  go_wp2
  go_ret
  exact ⟨rfl, hg⟩
set_option maxRecDepth 100000 in
set_option maxHeartbeats 4000000 in
theorem flatTales_nil (w : World) : Calls Tryz.prog 55 #[.slice none 0 0] w fun e w' => e = .returned (.bool true) ∧ w.grownBy w' none := by
  go_enter Tryz.func55, Tryz.ntmps55
  go_wp2
  go_loopw [3] (fun i wr => i = .int .i64 0 ∧ w.grownBy wr none) (fun _ _ => 0)
  case atStart => exact ⟨rfl, gb_refl _ _⟩
  obtain ⟨rfl, hg⟩ := hrel
  obtain ⟨w2, hmk, hg2⟩ := make_none 65 191 Tryz.underlying65 (by kernel_rfl) wr
  have hg3 := gb_trans hg hg2
  go_wp2
  go_loopw [6] (fun i wr => i = .int .i64 0 ∧ w.grownBy wr none) (fun _ _ => 0)
  case atStart => exact ⟨rfl, hg3⟩
  obtain ⟨rfl, hg⟩ := hrel
  go_wp2
  go_loopw [9] (fun i wr => i = .int .i64 0 ∧ w.grownBy wr none) (fun _ _ => 0)
  case atStart => exact ⟨rfl, hg⟩
  obtain ⟨rfl, hg⟩ := hrel
  go_wp2
  go_loopw [11] (fun i wr => i = .int .i64 0 ∧ w.grownBy wr none) (fun _ _ => 0)
  case atStart => exact ⟨rfl, hg⟩
  obtain ⟨rfl, hg⟩ := hrel
  go_wp2
  go_loopw [14] (fun i wr => i = .int .i64 0 ∧ w.grownBy wr none) (fun _ _ => 0)
  case atStart => exact ⟨rfl, hg⟩
  obtain ⟨rfl, hg⟩ := hrel
  go_wp2
  go_ret
  exact ⟨rfl, hg⟩
end Go.Proofs.YtkddpehkamkaoaaGreatDoor
