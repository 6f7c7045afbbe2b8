/- The kit's flat..: of no list, true. (gen_nils.py) -/
import Derived.Test.YtlkiancedgaicaaGreatFlatGrow
namespace Go.Proofs.YtlkiancedgaicaaGreat
open Go.RowKit Ow

theorem make_none (st e : TypeId) (hu : Tryz.prog.underlying st = some (.slice e)) (hi : (Tryz.prog.info? e).map (fun i => i.zero.isSome) = some true) (w : World) : ∃ w', (Instr.makeSlice st (.int .i64 0) (.int .i64 0)).run Tryz.prog w = .ok (.slice (some ⟨w.heap.size, 0, none⟩) 0 0) w' ∧ w.grownBy w' none := by
  obtain ⟨i, hi1, hi2⟩ : ∃ i, Tryz.prog.info? e = some i ∧ i.zero.isSome = true := by
    cases h : Tryz.prog.info? e with
    | none => rw [h] at hi; cases hi
    | some i => rw [h] at hi; exact ⟨i, rfl, by simpa using hi⟩
  obtain ⟨z, hz⟩ := Option.isSome_iff_exists.1 hi2
  have h2 := run_make (P := Tryz.prog) w st e i z hu hi1 hz .i64 .i64 0 0 (by omega) (by omega) (by omega) (by omega)
  exact ⟨_, h2, gb_alloc (gb_refl _ _) _⟩

set_option maxRecDepth 100000 in
set_option maxHeartbeats 4000000 in
theorem flatLimbs_nil (w : World) : Calls Tryz.prog 93 #[.slice none 0 0] w fun e w' => e = .returned (.bool true) ∧ w.grownBy w' none := by
  go_enter Tryz.func93, Tryz.ntmps93
  go_wp2
  go_loopw [3] (fun i wr => i = .int .i64 0 ∧ w.grownBy wr none) (fun _ _ => 0)
  case atStart => exact ⟨rfl, gb_refl _ _⟩
  obtain ⟨rfl, hg⟩ := hrel
  obtain ⟨w2, hmk, hg2⟩ := make_none 75 169 Tryz.underlying75 (by kernel_rfl) wr
  have hg3 := gb_trans hg hg2
  go_wp2
  go_loopw [6] (fun i wr => i = .int .i64 0 ∧ w.grownBy wr none) (fun _ _ => 0)
  case atStart => exact ⟨rfl, hg3⟩
  obtain ⟨rfl, hg⟩ := hrel
  go_wp2
  go_loopw [9] (fun i wr => i = .int .i64 0 ∧ w.grownBy wr none) (fun _ _ => 0)
  case atStart => exact ⟨rfl, hg⟩
  obtain ⟨rfl, hg⟩ := hrel
  go_wp2
  go_loopw [11] (fun i wr => i = .int .i64 0 ∧ w.grownBy wr none) (fun _ _ => 0)
  case atStart => exact ⟨rfl, hg⟩
  obtain ⟨rfl, hg⟩ := hrel
  go_wp2
  go_loopw [14] (fun i wr => i = .int .i64 0 ∧ w.grownBy wr none) (fun _ _ => 0)
  case atStart => exact ⟨rfl, hg⟩
  obtain ⟨rfl, hg⟩ := hrel
  go_wp2
  go_ret
  exact ⟨rfl, hg⟩
set_option maxRecDepth 100000 in
set_option maxHeartbeats 4000000 in
theorem flatWords_nil (w : World) : Calls Tryz.prog 94 #[.slice none 0 0] w fun e w' => e = .returned (.bool true) ∧ w.grownBy w' none := by
  go_enter Tryz.func94, Tryz.ntmps94
  go_wp2
  go_loopw [3] (fun i wr => i = .int .i64 0 ∧ w.grownBy wr none) (fun _ _ => 0)
  case atStart => exact ⟨rfl, gb_refl _ _⟩
  obtain ⟨rfl, hg⟩ := hrel
  obtain ⟨w2, hmk, hg2⟩ := make_none 76 171 Tryz.underlying76 (by kernel_rfl) wr
  have hg3 := gb_trans hg hg2
  go_wp2
  go_loopw [6] (fun i wr => i = .int .i64 0 ∧ w.grownBy wr none) (fun _ _ => 0)
  case atStart => exact ⟨rfl, hg3⟩
  obtain ⟨rfl, hg⟩ := hrel
  go_wp2
  go_loopw [9] (fun i wr => i = .int .i64 0 ∧ w.grownBy wr none) (fun _ _ => 0)
  case atStart => exact ⟨rfl, hg⟩
  obtain ⟨rfl, hg⟩ := hrel
  go_wp2
  go_loopw [11] (fun i wr => i = .int .i64 0 ∧ w.grownBy wr none) (fun _ _ => 0)
  case atStart => exact ⟨rfl, hg⟩
  obtain ⟨rfl, hg⟩ := hrel
  go_wp2
  go_loopw [14] (fun i wr => i = .int .i64 0 ∧ w.grownBy wr none) (fun _ _ => 0)
  case atStart => exact ⟨rfl, hg⟩
  obtain ⟨rfl, hg⟩ := hrel
  go_wp2
  go_ret
  exact ⟨rfl, hg⟩
set_option maxRecDepth 100000 in
set_option maxHeartbeats 4000000 in
theorem flatInts_nil (w : World) : Calls Tryz.prog 95 #[.slice none 0 0] w fun e w' => e = .returned (.bool true) ∧ w.grownBy w' none := by
  go_enter Tryz.func95, Tryz.ntmps95
  go_wp2
  go_loopw [3] (fun i wr => i = .int .i64 0 ∧ w.grownBy wr none) (fun _ _ => 0)
  case atStart => exact ⟨rfl, gb_refl _ _⟩
  obtain ⟨rfl, hg⟩ := hrel
  obtain ⟨w2, hmk, hg2⟩ := make_none 77 46 Tryz.underlying77 (by kernel_rfl) wr
  have hg3 := gb_trans hg hg2
  go_wp2
  go_loopw [6] (fun i wr => i = .int .i64 0 ∧ w.grownBy wr none) (fun _ _ => 0)
  case atStart => exact ⟨rfl, hg3⟩
  obtain ⟨rfl, hg⟩ := hrel
  go_wp2
  go_loopw [9] (fun i wr => i = .int .i64 0 ∧ w.grownBy wr none) (fun _ _ => 0)
  case atStart => exact ⟨rfl, hg⟩
  obtain ⟨rfl, hg⟩ := hrel
  go_wp2
  go_loopw [11] (fun i wr => i = .int .i64 0 ∧ w.grownBy wr none) (fun _ _ => 0)
  case atStart => exact ⟨rfl, hg⟩
  obtain ⟨rfl, hg⟩ := hrel
  go_wp2
  go_loopw [14] (fun i wr => i = .int .i64 0 ∧ w.grownBy wr none) (fun _ _ => 0)
  case atStart => exact ⟨rfl, hg⟩
  obtain ⟨rfl, hg⟩ := hrel
  go_wp2
  go_ret
  exact ⟨rfl, hg⟩
set_option maxRecDepth 100000 in
set_option maxHeartbeats 4000000 in
theorem flatLongs_nil (w : World) : Calls Tryz.prog 96 #[.slice none 0 0] w fun e w' => e = .returned (.bool true) ∧ w.grownBy w' none := by
  go_enter Tryz.func96, Tryz.ntmps96
  go_wp2
  go_loopw [3] (fun i wr => i = .int .i64 0 ∧ w.grownBy wr none) (fun _ _ => 0)
  case atStart => exact ⟨rfl, gb_refl _ _⟩
  obtain ⟨rfl, hg⟩ := hrel
  obtain ⟨w2, hmk, hg2⟩ := make_none 78 172 Tryz.underlying78 (by kernel_rfl) wr
  have hg3 := gb_trans hg hg2
  go_wp2
  go_loopw [6] (fun i wr => i = .int .i64 0 ∧ w.grownBy wr none) (fun _ _ => 0)
  case atStart => exact ⟨rfl, hg3⟩
  obtain ⟨rfl, hg⟩ := hrel
  go_wp2
  go_loopw [9] (fun i wr => i = .int .i64 0 ∧ w.grownBy wr none) (fun _ _ => 0)
  case atStart => exact ⟨rfl, hg⟩
  obtain ⟨rfl, hg⟩ := hrel
  go_wp2
  go_loopw [11] (fun i wr => i = .int .i64 0 ∧ w.grownBy wr none) (fun _ _ => 0)
  case atStart => exact ⟨rfl, hg⟩
  obtain ⟨rfl, hg⟩ := hrel
  go_wp2
  go_loopw [14] (fun i wr => i = .int .i64 0 ∧ w.grownBy wr none) (fun _ _ => 0)
  case atStart => exact ⟨rfl, hg⟩
  obtain ⟨rfl, hg⟩ := hrel
  go_wp2
  go_ret
  exact ⟨rfl, hg⟩
set_option maxRecDepth 100000 in
set_option maxHeartbeats 4000000 in
theorem flatTexts_nil (w : World) : Calls Tryz.prog 97 #[.slice none 0 0] w fun e w' => e = .returned (.bool true) ∧ w.grownBy w' none := by
  go_enter Tryz.func97, Tryz.ntmps97
  go_wp2
  go_loopw [3] (fun i wr => i = .int .i64 0 ∧ w.grownBy wr none) (fun _ _ => 0)
  case atStart => exact ⟨rfl, gb_refl _ _⟩
  obtain ⟨rfl, hg⟩ := hrel
  obtain ⟨w2, hmk, hg2⟩ := make_none 79 173 Tryz.underlying79 (by kernel_rfl) wr
  have hg3 := gb_trans hg hg2
  go_wp2
  go_loopw [6] (fun i wr => i = .int .i64 0 ∧ w.grownBy wr none) (fun _ _ => 0)
  case atStart => exact ⟨rfl, hg3⟩
  obtain ⟨rfl, hg⟩ := hrel
  go_wp2
  go_loopw [9] (fun i wr => i = .int .i64 0 ∧ w.grownBy wr none) (fun _ _ => 0)
  case atStart => exact ⟨rfl, hg⟩
  obtain ⟨rfl, hg⟩ := hrel
  go_wp2
  go_loopw [11] (fun i wr => i = .int .i64 0 ∧ w.grownBy wr none) (fun _ _ => 0)
  case atStart => exact ⟨rfl, hg⟩
  obtain ⟨rfl, hg⟩ := hrel
  go_wp2
  go_loopw [14] (fun i wr => i = .int .i64 0 ∧ w.grownBy wr none) (fun _ _ => 0)
  case atStart => exact ⟨rfl, hg⟩
  obtain ⟨rfl, hg⟩ := hrel
  go_wp2
  go_ret
  exact ⟨rfl, hg⟩
set_option maxRecDepth 100000 in
set_option maxHeartbeats 4000000 in
theorem flatBytes_nil (w : World) : Calls Tryz.prog 98 #[.slice none 0 0] w fun e w' => e = .returned (.bool true) ∧ w.grownBy w' none := by
  go_enter Tryz.func98, Tryz.ntmps98
  go_wp2
  go_loopw [3] (fun i wr => i = .int .i64 0 ∧ w.grownBy wr none) (fun _ _ => 0)
  case atStart => exact ⟨rfl, gb_refl _ _⟩
  obtain ⟨rfl, hg⟩ := hrel
  obtain ⟨w2, hmk, hg2⟩ := make_none 22 23 Tryz.underlying22 (by kernel_rfl) wr
  have hg3 := gb_trans hg hg2
  go_wp2
  go_loopw [6] (fun i wr => i = .int .i64 0 ∧ w.grownBy wr none) (fun _ _ => 0)
  case atStart => exact ⟨rfl, hg3⟩
  obtain ⟨rfl, hg⟩ := hrel
  go_wp2
  go_loopw [9] (fun i wr => i = .int .i64 0 ∧ w.grownBy wr none) (fun _ _ => 0)
  case atStart => exact ⟨rfl, hg⟩
  obtain ⟨rfl, hg⟩ := hrel
  go_wp2
  go_loopw [11] (fun i wr => i = .int .i64 0 ∧ w.grownBy wr none) (fun _ _ => 0)
  case atStart => exact ⟨rfl, hg⟩
  obtain ⟨rfl, hg⟩ := hrel
  go_wp2
  go_loopw [14] (fun i wr => i = .int .i64 0 ∧ w.grownBy wr none) (fun _ _ => 0)
  case atStart => exact ⟨rfl, hg⟩
  obtain ⟨rfl, hg⟩ := hrel
  go_wp2
  go_ret
  exact ⟨rfl, hg⟩
set_option maxRecDepth 100000 in
set_option maxHeartbeats 4000000 in
theorem flatTruths_nil (w : World) : Calls Tryz.prog 99 #[.slice none 0 0] w fun e w' => e = .returned (.bool true) ∧ w.grownBy w' none := by
  go_enter Tryz.func99, Tryz.ntmps99
  go_wp2
  go_loopw [3] (fun i wr => i = .int .i64 0 ∧ w.grownBy wr none) (fun _ _ => 0)
  case atStart => exact ⟨rfl, gb_refl _ _⟩
  obtain ⟨rfl, hg⟩ := hrel
  obtain ⟨w2, hmk, hg2⟩ := make_none 80 174 Tryz.underlying80 (by kernel_rfl) wr
  have hg3 := gb_trans hg hg2
  go_wp2
  go_loopw [6] (fun i wr => i = .int .i64 0 ∧ w.grownBy wr none) (fun _ _ => 0)
  case atStart => exact ⟨rfl, hg3⟩
  obtain ⟨rfl, hg⟩ := hrel
  go_wp2
  go_loopw [9] (fun i wr => i = .int .i64 0 ∧ w.grownBy wr none) (fun _ _ => 0)
  case atStart => exact ⟨rfl, hg⟩
  obtain ⟨rfl, hg⟩ := hrel
  go_wp2
  go_loopw [11] (fun i wr => i = .int .i64 0 ∧ w.grownBy wr none) (fun _ _ => 0)
  case atStart => exact ⟨rfl, hg⟩
  obtain ⟨rfl, hg⟩ := hrel
  go_wp2
  go_loopw [14] (fun i wr => i = .int .i64 0 ∧ w.grownBy wr none) (fun _ _ => 0)
  case atStart => exact ⟨rfl, hg⟩
  obtain ⟨rfl, hg⟩ := hrel
  go_wp2
  go_ret
  exact ⟨rfl, hg⟩
set_option maxRecDepth 100000 in
set_option maxHeartbeats 4000000 in
theorem flatRows_nil (w : World) : Calls Tryz.prog 100 #[.slice none 0 0] w fun e w' => e = .returned (.bool true) ∧ w.grownBy w' none := by
  go_enter Tryz.func100, Tryz.ntmps100
  go_wp2
  go_loopw [3] (fun i wr => i = .int .i64 0 ∧ w.grownBy wr none) (fun _ _ => 0)
  case atStart => exact ⟨rfl, gb_refl _ _⟩
  obtain ⟨rfl, hg⟩ := hrel
  obtain ⟨w2, hmk, hg2⟩ := make_none 81 22 Tryz.underlying81 (by kernel_rfl) wr
  have hg3 := gb_trans hg hg2
  go_wp2
  go_loopw [6] (fun i wr => i = .int .i64 0 ∧ w.grownBy wr none) (fun _ _ => 0)
  case atStart => exact ⟨rfl, hg3⟩
  obtain ⟨rfl, hg⟩ := hrel
  go_wp2
  go_loopw [9] (fun i wr => i = .int .i64 0 ∧ w.grownBy wr none) (fun _ _ => 0)
  case atStart => exact ⟨rfl, hg⟩
  obtain ⟨rfl, hg⟩ := hrel
  go_wp2
  go_loopw [11] (fun i wr => i = .int .i64 0 ∧ w.grownBy wr none) (fun _ _ => 0)
  case atStart => exact ⟨rfl, hg⟩
  obtain ⟨rfl, hg⟩ := hrel
  go_wp2
  go_loopw [14] (fun i wr => i = .int .i64 0 ∧ w.grownBy wr none) (fun _ _ => 0)
  case atStart => exact ⟨rfl, hg⟩
  obtain ⟨rfl, hg⟩ := hrel
  go_wp2
  go_ret
  exact ⟨rfl, hg⟩
set_option maxRecDepth 100000 in
set_option maxHeartbeats 4000000 in
theorem flatDots_nil (w : World) : Calls Tryz.prog 101 #[.slice none 0 0] w fun e w' => e = .returned (.bool true) ∧ w.grownBy w' none := by
  go_enter Tryz.func101, Tryz.ntmps101
  go_wp2
  go_loopw [3] (fun i wr => i = .int .i64 0 ∧ w.grownBy wr none) (fun _ _ => 0)
  case atStart => exact ⟨rfl, gb_refl _ _⟩
  obtain ⟨rfl, hg⟩ := hrel
  obtain ⟨w2, hmk, hg2⟩ := make_none 82 64 Tryz.underlying82 (by kernel_rfl) wr
  have hg3 := gb_trans hg hg2
  go_wp2
  go_loopw [6] (fun i wr => i = .int .i64 0 ∧ w.grownBy wr none) (fun _ _ => 0)
  case atStart => exact ⟨rfl, hg3⟩
  obtain ⟨rfl, hg⟩ := hrel
  go_wp2
  go_loopw [9] (fun i wr => i = .int .i64 0 ∧ w.grownBy wr none) (fun _ _ => 0)
  case atStart => exact ⟨rfl, hg⟩
  obtain ⟨rfl, hg⟩ := hrel
  go_wp2
  go_loopw [11] (fun i wr => i = .int .i64 0 ∧ w.grownBy wr none) (fun _ _ => 0)
  case atStart => exact ⟨rfl, hg⟩
  obtain ⟨rfl, hg⟩ := hrel
  go_wp2
  go_loopw [14] (fun i wr => i = .int .i64 0 ∧ w.grownBy wr none) (fun _ _ => 0)
  case atStart => exact ⟨rfl, hg⟩
  obtain ⟨rfl, hg⟩ := hrel
  go_wp2
  go_ret
  exact ⟨rfl, hg⟩
set_option maxRecDepth 100000 in
set_option maxHeartbeats 4000000 in
theorem flatRecords_nil (w : World) : Calls Tryz.prog 102 #[.slice none 0 0] w fun e w' => e = .returned (.bool true) ∧ w.grownBy w' none := by
  go_enter Tryz.func102, Tryz.ntmps102
  go_wp2
  go_loopw [3] (fun i wr => i = .int .i64 0 ∧ w.grownBy wr none) (fun _ _ => 0)
  case atStart => exact ⟨rfl, gb_refl _ _⟩
  obtain ⟨rfl, hg⟩ := hrel
  obtain ⟨w2, hmk, hg2⟩ := make_none 55 48 Tryz.underlying55 (by kernel_rfl) wr
  have hg3 := gb_trans hg hg2
  go_wp2
  go_loopw [6] (fun i wr => i = .int .i64 0 ∧ w.grownBy wr none) (fun _ _ => 0)
  case atStart => exact ⟨rfl, hg3⟩
  obtain ⟨rfl, hg⟩ := hrel
  go_wp2
  go_loopw [9] (fun i wr => i = .int .i64 0 ∧ w.grownBy wr none) (fun _ _ => 0)
  case atStart => exact ⟨rfl, hg⟩
  obtain ⟨rfl, hg⟩ := hrel
  go_wp2
  go_loopw [11] (fun i wr => i = .int .i64 0 ∧ w.grownBy wr none) (fun _ _ => 0)
  case atStart => exact ⟨rfl, hg⟩
  obtain ⟨rfl, hg⟩ := hrel
  go_wp2
  go_loopw [14] (fun i wr => i = .int .i64 0 ∧ w.grownBy wr none) (fun _ _ => 0)
  case atStart => exact ⟨rfl, hg⟩
  obtain ⟨rfl, hg⟩ := hrel
  go_wp2
  go_ret
  exact ⟨rfl, hg⟩
set_option maxRecDepth 100000 in
set_option maxHeartbeats 4000000 in
theorem flatLeaves_nil (w : World) : Calls Tryz.prog 103 #[.slice none 0 0] w fun e w' => e = .returned (.bool true) ∧ w.grownBy w' none := by
  go_enter Tryz.func103, Tryz.ntmps103
  go_wp2
  go_loopw [3] (fun i wr => i = .int .i64 0 ∧ w.grownBy wr none) (fun _ _ => 0)
  case atStart => exact ⟨rfl, gb_refl _ _⟩
  obtain ⟨rfl, hg⟩ := hrel
  obtain ⟨w2, hmk, hg2⟩ := make_none 83 176 Tryz.underlying83 (by kernel_rfl) wr
  have hg3 := gb_trans hg hg2
  go_wp2
  go_loopw [6] (fun i wr => i = .int .i64 0 ∧ w.grownBy wr none) (fun _ _ => 0)
  case atStart => exact ⟨rfl, hg3⟩
  obtain ⟨rfl, hg⟩ := hrel
  go_wp2
  go_loopw [9] (fun i wr => i = .int .i64 0 ∧ w.grownBy wr none) (fun _ _ => 0)
  case atStart => exact ⟨rfl, hg⟩
  obtain ⟨rfl, hg⟩ := hrel
  go_wp2
  go_loopw [11] (fun i wr => i = .int .i64 0 ∧ w.grownBy wr none) (fun _ _ => 0)
  case atStart => exact ⟨rfl, hg⟩
  obtain ⟨rfl, hg⟩ := hrel
  go_wp2
  go_loopw [14] (fun i wr => i = .int .i64 0 ∧ w.grownBy wr none) (fun _ _ => 0)
  case atStart => exact ⟨rfl, hg⟩
  obtain ⟨rfl, hg⟩ := hrel
  go_wp2
  go_ret
  exact ⟨rfl, hg⟩
set_option maxRecDepth 100000 in
set_option maxHeartbeats 4000000 in
theorem flatGrants_nil (w : World) : Calls Tryz.prog 104 #[.slice none 0 0] w fun e w' => e = .returned (.bool true) ∧ w.grownBy w' none := by
  go_enter Tryz.func104, Tryz.ntmps104
  go_wp2
  go_loopw [3] (fun i wr => i = .int .i64 0 ∧ w.grownBy wr none) (fun _ _ => 0)
  case atStart => exact ⟨rfl, gb_refl _ _⟩
  obtain ⟨rfl, hg⟩ := hrel
  obtain ⟨w2, hmk, hg2⟩ := make_none 84 181 Tryz.underlying84 (by kernel_rfl) wr
  have hg3 := gb_trans hg hg2
  go_wp2
  go_loopw [6] (fun i wr => i = .int .i64 0 ∧ w.grownBy wr none) (fun _ _ => 0)
  case atStart => exact ⟨rfl, hg3⟩
  obtain ⟨rfl, hg⟩ := hrel
  go_wp2
  go_loopw [9] (fun i wr => i = .int .i64 0 ∧ w.grownBy wr none) (fun _ _ => 0)
  case atStart => exact ⟨rfl, hg⟩
  obtain ⟨rfl, hg⟩ := hrel
  go_wp2
  go_loopw [11] (fun i wr => i = .int .i64 0 ∧ w.grownBy wr none) (fun _ _ => 0)
  case atStart => exact ⟨rfl, hg⟩
  obtain ⟨rfl, hg⟩ := hrel
  go_wp2
  go_loopw [14] (fun i wr => i = .int .i64 0 ∧ w.grownBy wr none) (fun _ _ => 0)
  case atStart => exact ⟨rfl, hg⟩
  obtain ⟨rfl, hg⟩ := hrel
  go_wp2
  go_ret
  exact ⟨rfl, hg⟩
set_option maxRecDepth 100000 in
set_option maxHeartbeats 4000000 in
theorem flatNodes_nil (w : World) : Calls Tryz.prog 105 #[.slice none 0 0] w fun e w' => e = .returned (.bool true) ∧ w.grownBy w' none := by
  go_enter Tryz.func105, Tryz.ntmps105
  go_wp2
  go_loopw [3] (fun i wr => i = .int .i64 0 ∧ w.grownBy wr none) (fun _ _ => 0)
  case atStart => exact ⟨rfl, gb_refl _ _⟩
  obtain ⟨rfl, hg⟩ := hrel
  obtain ⟨w2, hmk, hg2⟩ := make_none 85 186 Tryz.underlying85 (by kernel_rfl) wr
  have hg3 := gb_trans hg hg2
  go_wp2
  go_loopw [6] (fun i wr => i = .int .i64 0 ∧ w.grownBy wr none) (fun _ _ => 0)
  case atStart => exact ⟨rfl, hg3⟩
  obtain ⟨rfl, hg⟩ := hrel
  go_wp2
  go_loopw [9] (fun i wr => i = .int .i64 0 ∧ w.grownBy wr none) (fun _ _ => 0)
  case atStart => exact ⟨rfl, hg⟩
  obtain ⟨rfl, hg⟩ := hrel
  go_wp2
  go_loopw [11] (fun i wr => i = .int .i64 0 ∧ w.grownBy wr none) (fun _ _ => 0)
  case atStart => exact ⟨rfl, hg⟩
  obtain ⟨rfl, hg⟩ := hrel
  go_wp2
  go_loopw [14] (fun i wr => i = .int .i64 0 ∧ w.grownBy wr none) (fun _ _ => 0)
  case atStart => exact ⟨rfl, hg⟩
  obtain ⟨rfl, hg⟩ := hrel
  go_wp2
  go_ret
  exact ⟨rfl, hg⟩
set_option maxRecDepth 100000 in
set_option maxHeartbeats 4000000 in
theorem flatStubs_nil (w : World) : Calls Tryz.prog 106 #[.slice none 0 0] w fun e w' => e = .returned (.bool true) ∧ w.grownBy w' none := by
  go_enter Tryz.func106, Tryz.ntmps106
  go_wp2
  go_loopw [3] (fun i wr => i = .int .i64 0 ∧ w.grownBy wr none) (fun _ _ => 0)
  case atStart => exact ⟨rfl, gb_refl _ _⟩
  obtain ⟨rfl, hg⟩ := hrel
  obtain ⟨w2, hmk, hg2⟩ := make_none 86 192 Tryz.underlying86 (by kernel_rfl) wr
  have hg3 := gb_trans hg hg2
  go_wp2
  go_loopw [6] (fun i wr => i = .int .i64 0 ∧ w.grownBy wr none) (fun _ _ => 0)
  case atStart => exact ⟨rfl, hg3⟩
  obtain ⟨rfl, hg⟩ := hrel
  go_wp2
  go_loopw [9] (fun i wr => i = .int .i64 0 ∧ w.grownBy wr none) (fun _ _ => 0)
  case atStart => exact ⟨rfl, hg⟩
  obtain ⟨rfl, hg⟩ := hrel
  go_wp2
  go_loopw [11] (fun i wr => i = .int .i64 0 ∧ w.grownBy wr none) (fun _ _ => 0)
  case atStart => exact ⟨rfl, hg⟩
  obtain ⟨rfl, hg⟩ := hrel
  go_wp2
  go_loopw [14] (fun i wr => i = .int .i64 0 ∧ w.grownBy wr none) (fun _ _ => 0)
  case atStart => exact ⟨rfl, hg⟩
  obtain ⟨rfl, hg⟩ := hrel
  go_wp2
  go_ret
  exact ⟨rfl, hg⟩
set_option maxRecDepth 100000 in
set_option maxHeartbeats 4000000 in
theorem flatProofs_nil (w : World) : Calls Tryz.prog 107 #[.slice none 0 0] w fun e w' => e = .returned (.bool true) ∧ w.grownBy w' none := by
  go_enter Tryz.func107, Tryz.ntmps107
  go_wp2
  go_loopw [3] (fun i wr => i = .int .i64 0 ∧ w.grownBy wr none) (fun _ _ => 0)
  case atStart => exact ⟨rfl, gb_refl _ _⟩
  obtain ⟨rfl, hg⟩ := hrel
  obtain ⟨w2, hmk, hg2⟩ := make_none 87 197 Tryz.underlying87 (by kernel_rfl) wr
  have hg3 := gb_trans hg hg2
  go_wp2
  go_loopw [6] (fun i wr => i = .int .i64 0 ∧ w.grownBy wr none) (fun _ _ => 0)
  case atStart => exact ⟨rfl, hg3⟩
  obtain ⟨rfl, hg⟩ := hrel
  go_wp2
  go_loopw [9] (fun i wr => i = .int .i64 0 ∧ w.grownBy wr none) (fun _ _ => 0)
  case atStart => exact ⟨rfl, hg⟩
  obtain ⟨rfl, hg⟩ := hrel
  go_wp2
  go_loopw [11] (fun i wr => i = .int .i64 0 ∧ w.grownBy wr none) (fun _ _ => 0)
  case atStart => exact ⟨rfl, hg⟩
  obtain ⟨rfl, hg⟩ := hrel
  go_wp2
  go_loopw [14] (fun i wr => i = .int .i64 0 ∧ w.grownBy wr none) (fun _ _ => 0)
  case atStart => exact ⟨rfl, hg⟩
  obtain ⟨rfl, hg⟩ := hrel
  go_wp2
  go_ret
  exact ⟨rfl, hg⟩
set_option maxRecDepth 100000 in
set_option maxHeartbeats 4000000 in
theorem flatRoots_nil (w : World) : Calls Tryz.prog 108 #[.slice none 0 0] w fun e w' => e = .returned (.bool true) ∧ w.grownBy w' none := by
  go_enter Tryz.func108, Tryz.ntmps108
  go_wp2
  go_loopw [3] (fun i wr => i = .int .i64 0 ∧ w.grownBy wr none) (fun _ _ => 0)
  case atStart => exact ⟨rfl, gb_refl _ _⟩
  obtain ⟨rfl, hg⟩ := hrel
  obtain ⟨w2, hmk, hg2⟩ := make_none 88 202 Tryz.underlying88 (by kernel_rfl) wr
  have hg3 := gb_trans hg hg2
  go_wp2
  go_loopw [6] (fun i wr => i = .int .i64 0 ∧ w.grownBy wr none) (fun _ _ => 0)
  case atStart => exact ⟨rfl, hg3⟩
  obtain ⟨rfl, hg⟩ := hrel
  go_wp2
  go_loopw [9] (fun i wr => i = .int .i64 0 ∧ w.grownBy wr none) (fun _ _ => 0)
  case atStart => exact ⟨rfl, hg⟩
  obtain ⟨rfl, hg⟩ := hrel
  go_wp2
  go_loopw [11] (fun i wr => i = .int .i64 0 ∧ w.grownBy wr none) (fun _ _ => 0)
  case atStart => exact ⟨rfl, hg⟩
  obtain ⟨rfl, hg⟩ := hrel
  go_wp2
  go_loopw [14] (fun i wr => i = .int .i64 0 ∧ w.grownBy wr none) (fun _ _ => 0)
  case atStart => exact ⟨rfl, hg⟩
  obtain ⟨rfl, hg⟩ := hrel
  go_wp2
  go_ret
  exact ⟨rfl, hg⟩
set_option maxRecDepth 100000 in
set_option maxHeartbeats 4000000 in
theorem flatEvidenceRow_nil (w : World) : Calls Tryz.prog 109 #[.slice none 0 0] w fun e w' => e = .returned (.bool true) ∧ w.grownBy w' none := by
  go_enter Tryz.func109, Tryz.ntmps109
  go_wp2
  go_loopw [3] (fun i wr => i = .int .i64 0 ∧ w.grownBy wr none) (fun _ _ => 0)
  case atStart => exact ⟨rfl, gb_refl _ _⟩
  obtain ⟨rfl, hg⟩ := hrel
  obtain ⟨w2, hmk, hg2⟩ := make_none 89 207 Tryz.underlying89 (by kernel_rfl) wr
  have hg3 := gb_trans hg hg2
  go_wp2
  go_loopw [6] (fun i wr => i = .int .i64 0 ∧ w.grownBy wr none) (fun _ _ => 0)
  case atStart => exact ⟨rfl, hg3⟩
  obtain ⟨rfl, hg⟩ := hrel
  go_wp2
  go_loopw [9] (fun i wr => i = .int .i64 0 ∧ w.grownBy wr none) (fun _ _ => 0)
  case atStart => exact ⟨rfl, hg⟩
  obtain ⟨rfl, hg⟩ := hrel
  go_wp2
  go_loopw [11] (fun i wr => i = .int .i64 0 ∧ w.grownBy wr none) (fun _ _ => 0)
  case atStart => exact ⟨rfl, hg⟩
  obtain ⟨rfl, hg⟩ := hrel
  go_wp2
  go_loopw [14] (fun i wr => i = .int .i64 0 ∧ w.grownBy wr none) (fun _ _ => 0)
  case atStart => exact ⟨rfl, hg⟩
  obtain ⟨rfl, hg⟩ := hrel
  go_wp2
  go_ret
  exact ⟨rfl, hg⟩
set_option maxRecDepth 100000 in
set_option maxHeartbeats 4000000 in
theorem flatFrames_nil (w : World) : Calls Tryz.prog 110 #[.slice none 0 0] w fun e w' => e = .returned (.bool true) ∧ w.grownBy w' none := by
  go_enter Tryz.func110, Tryz.ntmps110
  go_wp2
  go_loopw [3] (fun i wr => i = .int .i64 0 ∧ w.grownBy wr none) (fun _ _ => 0)
  case atStart => exact ⟨rfl, gb_refl _ _⟩
  obtain ⟨rfl, hg⟩ := hrel
  obtain ⟨w2, hmk, hg2⟩ := make_none 90 212 Tryz.underlying90 (by kernel_rfl) wr
  have hg3 := gb_trans hg hg2
  go_wp2
  go_loopw [6] (fun i wr => i = .int .i64 0 ∧ w.grownBy wr none) (fun _ _ => 0)
  case atStart => exact ⟨rfl, hg3⟩
  obtain ⟨rfl, hg⟩ := hrel
  go_wp2
  go_loopw [9] (fun i wr => i = .int .i64 0 ∧ w.grownBy wr none) (fun _ _ => 0)
  case atStart => exact ⟨rfl, hg⟩
  obtain ⟨rfl, hg⟩ := hrel
  go_wp2
  go_loopw [11] (fun i wr => i = .int .i64 0 ∧ w.grownBy wr none) (fun _ _ => 0)
  case atStart => exact ⟨rfl, hg⟩
  obtain ⟨rfl, hg⟩ := hrel
  go_wp2
  go_loopw [14] (fun i wr => i = .int .i64 0 ∧ w.grownBy wr none) (fun _ _ => 0)
  case atStart => exact ⟨rfl, hg⟩
  obtain ⟨rfl, hg⟩ := hrel
  go_wp2
  go_ret
  exact ⟨rfl, hg⟩
set_option maxRecDepth 100000 in
set_option maxHeartbeats 4000000 in
theorem flatPackets_nil (w : World) : Calls Tryz.prog 111 #[.slice none 0 0] w fun e w' => e = .returned (.bool true) ∧ w.grownBy w' none := by
  go_enter Tryz.func111, Tryz.ntmps111
  go_wp2
  go_loopw [3] (fun i wr => i = .int .i64 0 ∧ w.grownBy wr none) (fun _ _ => 0)
  case atStart => exact ⟨rfl, gb_refl _ _⟩
  obtain ⟨rfl, hg⟩ := hrel
  obtain ⟨w2, hmk, hg2⟩ := make_none 91 218 Tryz.underlying91 (by kernel_rfl) wr
  have hg3 := gb_trans hg hg2
  go_wp2
  go_loopw [6] (fun i wr => i = .int .i64 0 ∧ w.grownBy wr none) (fun _ _ => 0)
  case atStart => exact ⟨rfl, hg3⟩
  obtain ⟨rfl, hg⟩ := hrel
  go_wp2
  go_loopw [9] (fun i wr => i = .int .i64 0 ∧ w.grownBy wr none) (fun _ _ => 0)
  case atStart => exact ⟨rfl, hg⟩
  obtain ⟨rfl, hg⟩ := hrel
  go_wp2
  go_loopw [11] (fun i wr => i = .int .i64 0 ∧ w.grownBy wr none) (fun _ _ => 0)
  case atStart => exact ⟨rfl, hg⟩
  obtain ⟨rfl, hg⟩ := hrel
  go_wp2
  go_loopw [14] (fun i wr => i = .int .i64 0 ∧ w.grownBy wr none) (fun _ _ => 0)
  case atStart => exact ⟨rfl, hg⟩
  obtain ⟨rfl, hg⟩ := hrel
  go_wp2
  go_ret
  exact ⟨rfl, hg⟩
set_option maxRecDepth 100000 in
set_option maxHeartbeats 4000000 in
theorem flatEntries_nil (w : World) : Calls Tryz.prog 112 #[.slice none 0 0] w fun e w' => e = .returned (.bool true) ∧ w.grownBy w' none := by
  go_enter Tryz.func112, Tryz.ntmps112
  go_wp2
  go_loopw [3] (fun i wr => i = .int .i64 0 ∧ w.grownBy wr none) (fun _ _ => 0)
  case atStart => exact ⟨rfl, gb_refl _ _⟩
  obtain ⟨rfl, hg⟩ := hrel
  obtain ⟨w2, hmk, hg2⟩ := make_none 92 223 Tryz.underlying92 (by kernel_rfl) wr
  have hg3 := gb_trans hg hg2
  go_wp2
  go_loopw [6] (fun i wr => i = .int .i64 0 ∧ w.grownBy wr none) (fun _ _ => 0)
  case atStart => exact ⟨rfl, hg3⟩
  obtain ⟨rfl, hg⟩ := hrel
  go_wp2
  go_loopw [9] (fun i wr => i = .int .i64 0 ∧ w.grownBy wr none) (fun _ _ => 0)
  case atStart => exact ⟨rfl, hg⟩
  obtain ⟨rfl, hg⟩ := hrel
  go_wp2
  go_loopw [11] (fun i wr => i = .int .i64 0 ∧ w.grownBy wr none) (fun _ _ => 0)
  case atStart => exact ⟨rfl, hg⟩
  obtain ⟨rfl, hg⟩ := hrel
  go_wp2
  go_loopw [14] (fun i wr => i = .int .i64 0 ∧ w.grownBy wr none) (fun _ _ => 0)
  case atStart => exact ⟨rfl, hg⟩
  obtain ⟨rfl, hg⟩ := hrel
  go_wp2
  go_ret
  exact ⟨rfl, hg⟩
set_option maxRecDepth 100000 in
set_option maxHeartbeats 4000000 in
theorem flatHeldRow_nil (w : World) : Calls Tryz.prog 113 #[.slice none 0 0] w fun e w' => e = .returned (.bool true) ∧ w.grownBy w' none := by
  go_enter Tryz.func113, Tryz.ntmps113
  go_wp2
  go_loopw [3] (fun i wr => i = .int .i64 0 ∧ w.grownBy wr none) (fun _ _ => 0)
  case atStart => exact ⟨rfl, gb_refl _ _⟩
  obtain ⟨rfl, hg⟩ := hrel
  obtain ⟨w2, hmk, hg2⟩ := make_none 93 229 Tryz.underlying93 (by kernel_rfl) wr
  have hg3 := gb_trans hg hg2
  go_wp2
  go_loopw [6] (fun i wr => i = .int .i64 0 ∧ w.grownBy wr none) (fun _ _ => 0)
  case atStart => exact ⟨rfl, hg3⟩
  obtain ⟨rfl, hg⟩ := hrel
  go_wp2
  go_loopw [9] (fun i wr => i = .int .i64 0 ∧ w.grownBy wr none) (fun _ _ => 0)
  case atStart => exact ⟨rfl, hg⟩
  obtain ⟨rfl, hg⟩ := hrel
  go_wp2
  go_loopw [11] (fun i wr => i = .int .i64 0 ∧ w.grownBy wr none) (fun _ _ => 0)
  case atStart => exact ⟨rfl, hg⟩
  obtain ⟨rfl, hg⟩ := hrel
  go_wp2
  go_loopw [14] (fun i wr => i = .int .i64 0 ∧ w.grownBy wr none) (fun _ _ => 0)
  case atStart => exact ⟨rfl, hg⟩
  obtain ⟨rfl, hg⟩ := hrel
  go_wp2
  go_ret
  exact ⟨rfl, hg⟩
set_option maxRecDepth 100000 in
set_option maxHeartbeats 4000000 in
theorem flatConfigs_nil (w : World) : Calls Tryz.prog 114 #[.slice none 0 0] w fun e w' => e = .returned (.bool true) ∧ w.grownBy w' none := by
  go_enter Tryz.func114, Tryz.ntmps114
  go_wp2
  go_loopw [3] (fun i wr => i = .int .i64 0 ∧ w.grownBy wr none) (fun _ _ => 0)
  case atStart => exact ⟨rfl, gb_refl _ _⟩
  obtain ⟨rfl, hg⟩ := hrel
  obtain ⟨w2, hmk, hg2⟩ := make_none 94 234 Tryz.underlying94 (by kernel_rfl) wr
  have hg3 := gb_trans hg hg2
  go_wp2
  go_loopw [6] (fun i wr => i = .int .i64 0 ∧ w.grownBy wr none) (fun _ _ => 0)
  case atStart => exact ⟨rfl, hg3⟩
  obtain ⟨rfl, hg⟩ := hrel
  go_wp2
  go_loopw [9] (fun i wr => i = .int .i64 0 ∧ w.grownBy wr none) (fun _ _ => 0)
  case atStart => exact ⟨rfl, hg⟩
  obtain ⟨rfl, hg⟩ := hrel
  go_wp2
  go_loopw [11] (fun i wr => i = .int .i64 0 ∧ w.grownBy wr none) (fun _ _ => 0)
  case atStart => exact ⟨rfl, hg⟩
  obtain ⟨rfl, hg⟩ := hrel
  go_wp2
  go_loopw [14] (fun i wr => i = .int .i64 0 ∧ w.grownBy wr none) (fun _ _ => 0)
  case atStart => exact ⟨rfl, hg⟩
  obtain ⟨rfl, hg⟩ := hrel
  go_wp2
  go_ret
  exact ⟨rfl, hg⟩
set_option maxRecDepth 100000 in
set_option maxHeartbeats 4000000 in
theorem flatSteps_nil (w : World) : Calls Tryz.prog 115 #[.slice none 0 0] w fun e w' => e = .returned (.bool true) ∧ w.grownBy w' none := by
  go_enter Tryz.func115, Tryz.ntmps115
  go_wp2
  go_loopw [3] (fun i wr => i = .int .i64 0 ∧ w.grownBy wr none) (fun _ _ => 0)
  case atStart => exact ⟨rfl, gb_refl _ _⟩
  obtain ⟨rfl, hg⟩ := hrel
  obtain ⟨w2, hmk, hg2⟩ := make_none 95 239 Tryz.underlying95 (by kernel_rfl) wr
  have hg3 := gb_trans hg hg2
  go_wp2
  go_loopw [6] (fun i wr => i = .int .i64 0 ∧ w.grownBy wr none) (fun _ _ => 0)
  case atStart => exact ⟨rfl, hg3⟩
  obtain ⟨rfl, hg⟩ := hrel
  go_wp2
  go_loopw [9] (fun i wr => i = .int .i64 0 ∧ w.grownBy wr none) (fun _ _ => 0)
  case atStart => exact ⟨rfl, hg⟩
  obtain ⟨rfl, hg⟩ := hrel
  go_wp2
  go_loopw [11] (fun i wr => i = .int .i64 0 ∧ w.grownBy wr none) (fun _ _ => 0)
  case atStart => exact ⟨rfl, hg⟩
  obtain ⟨rfl, hg⟩ := hrel
  go_wp2
  go_loopw [14] (fun i wr => i = .int .i64 0 ∧ w.grownBy wr none) (fun _ _ => 0)
  case atStart => exact ⟨rfl, hg⟩
  obtain ⟨rfl, hg⟩ := hrel
  go_wp2
  go_ret
  exact ⟨rfl, hg⟩
set_option maxRecDepth 100000 in
set_option maxHeartbeats 4000000 in
theorem flatTales_nil (w : World) : Calls Tryz.prog 116 #[.slice none 0 0] w fun e w' => e = .returned (.bool true) ∧ w.grownBy w' none := by
  go_enter Tryz.func116, Tryz.ntmps116
  go_wp2
  go_loopw [3] (fun i wr => i = .int .i64 0 ∧ w.grownBy wr none) (fun _ _ => 0)
  case atStart => exact ⟨rfl, gb_refl _ _⟩
  obtain ⟨rfl, hg⟩ := hrel
  obtain ⟨w2, hmk, hg2⟩ := make_none 96 245 Tryz.underlying96 (by kernel_rfl) wr
  have hg3 := gb_trans hg hg2
  go_wp2
  go_loopw [6] (fun i wr => i = .int .i64 0 ∧ w.grownBy wr none) (fun _ _ => 0)
  case atStart => exact ⟨rfl, hg3⟩
  obtain ⟨rfl, hg⟩ := hrel
  go_wp2
  go_loopw [9] (fun i wr => i = .int .i64 0 ∧ w.grownBy wr none) (fun _ _ => 0)
  case atStart => exact ⟨rfl, hg⟩
  obtain ⟨rfl, hg⟩ := hrel
  go_wp2
  go_loopw [11] (fun i wr => i = .int .i64 0 ∧ w.grownBy wr none) (fun _ _ => 0)
  case atStart => exact ⟨rfl, hg⟩
  obtain ⟨rfl, hg⟩ := hrel
  go_wp2
  go_loopw [14] (fun i wr => i = .int .i64 0 ∧ w.grownBy wr none) (fun _ _ => 0)
  case atStart => exact ⟨rfl, hg⟩
  obtain ⟨rfl, hg⟩ := hrel
  go_wp2
  go_ret
  exact ⟨rfl, hg⟩
end Go.Proofs.YtlkiancedgaicaaGreat
