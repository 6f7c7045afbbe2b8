/- The kit's flat..: of no list, true. (gen_nils.py) -/
import Derived.Test.YtkffbaihknhefaaOwnRows
import Derived.Lib.Hide
import Derived.WalkKit
import Derived.WalkSpells
import Derived.WalkLawsBesides
import Derived.Laws.MakeOwn
namespace Go.Proofs.Ytkffbaihknhefaa
open Go.RowKit Ow
namespace Fd

theorem make_none (st e : TypeId) (hu : Try.prog.underlying st = some (.slice e)) (hi : (Try.prog.info? e).map (fun i => i.zero.isSome) = some true) (w : World) : ∃ w', (Instr.makeSlice st (.int .i64 0) (.int .i64 0)).run Try.prog w = .ok (.slice (some ⟨w.heap.size, 0, none⟩) 0 0) w' ∧ w.grownBy w' none := by
  obtain ⟨i, hi1, hi2⟩ : ∃ i, Try.prog.info? e = some i ∧ i.zero.isSome = true := by
    cases h : Try.prog.info? e with
    | none => rw [h] at hi; cases hi
    | some i => rw [h] at hi; exact ⟨i, rfl, by simpa using hi⟩
  obtain ⟨z, hz⟩ := Option.isSome_iff_exists.1 hi2
  have h2 := run_make (P := Try.prog) w st e i z hu hi1 hz .i64 .i64 0 0 (by omega) (by omega) (by omega) (by omega)
  exact ⟨_, h2, gb_alloc (gb_refl _ _) _⟩

set_option maxRecDepth 100000 in
set_option maxHeartbeats 4000000 in
theorem flatLimbs_nil (w : World) : Calls Try.prog 35 #[.slice none 0 0] w fun e w' => e = .returned (.bool true) ∧ w.grownBy w' none := by
  go_enter Try.func35, Try.ntmps35
  go_wp2
  go_loopw [3] (fun i wr => i = .int .i64 0 ∧ w.grownBy wr none) (fun _ _ => 0)
  case atStart => exact ⟨rfl, gb_refl _ _⟩
  obtain ⟨rfl, hg⟩ := hrel
  obtain ⟨w2, hmk, hg2⟩ := make_none 49 105 Try.underlying49 (by kernel_rfl) wr
  have hg3 := gb_trans hg hg2
  go_wp2
  go_loopw [6] (fun i wr => i = .int .i64 0 ∧ w.grownBy wr none) (fun _ _ => 0)
  case atStart => exact ⟨rfl, hg3⟩
  obtain ⟨rfl, hg⟩ := hrel
  go_wp2
  go_loopw [9] (fun i wr => i = .int .i64 0 ∧ w.grownBy wr none) (fun _ _ => 0)
  case atStart => exact ⟨rfl, hg⟩
  obtain ⟨rfl, hg⟩ := hrel
  go_wp2
  go_loopw [11] (fun i wr => i = .int .i64 0 ∧ w.grownBy wr none) (fun _ _ => 0)
  case atStart => exact ⟨rfl, hg⟩
  obtain ⟨rfl, hg⟩ := hrel
  go_wp2
  go_loopw [14] (fun i wr => i = .int .i64 0 ∧ w.grownBy wr none) (fun _ _ => 0)
  case atStart => exact ⟨rfl, hg⟩
  obtain ⟨rfl, hg⟩ := hrel
  go_wp2
  go_ret
  exact ⟨rfl, hg⟩
set_option maxRecDepth 100000 in
set_option maxHeartbeats 4000000 in
theorem flatWords_nil (w : World) : Calls Try.prog 36 #[.slice none 0 0] w fun e w' => e = .returned (.bool true) ∧ w.grownBy w' none := by
  go_enter Try.func36, Try.ntmps36
  go_wp2
  go_loopw [3] (fun i wr => i = .int .i64 0 ∧ w.grownBy wr none) (fun _ _ => 0)
  case atStart => exact ⟨rfl, gb_refl _ _⟩
  obtain ⟨rfl, hg⟩ := hrel
  obtain ⟨w2, hmk, hg2⟩ := make_none 50 107 Try.underlying50 (by kernel_rfl) wr
  have hg3 := gb_trans hg hg2
  go_wp2
  go_loopw [6] (fun i wr => i = .int .i64 0 ∧ w.grownBy wr none) (fun _ _ => 0)
  case atStart => exact ⟨rfl, hg3⟩
  obtain ⟨rfl, hg⟩ := hrel
  go_wp2
  go_loopw [9] (fun i wr => i = .int .i64 0 ∧ w.grownBy wr none) (fun _ _ => 0)
  case atStart => exact ⟨rfl, hg⟩
  obtain ⟨rfl, hg⟩ := hrel
  go_wp2
  go_loopw [11] (fun i wr => i = .int .i64 0 ∧ w.grownBy wr none) (fun _ _ => 0)
  case atStart => exact ⟨rfl, hg⟩
  obtain ⟨rfl, hg⟩ := hrel
  go_wp2
  go_loopw [14] (fun i wr => i = .int .i64 0 ∧ w.grownBy wr none) (fun _ _ => 0)
  case atStart => exact ⟨rfl, hg⟩
  obtain ⟨rfl, hg⟩ := hrel
  go_wp2
  go_ret
  exact ⟨rfl, hg⟩
set_option maxRecDepth 100000 in
set_option maxHeartbeats 4000000 in
theorem flatInts_nil (w : World) : Calls Try.prog 37 #[.slice none 0 0] w fun e w' => e = .returned (.bool true) ∧ w.grownBy w' none := by
  go_enter Try.func37, Try.ntmps37
  go_wp2
  go_loopw [3] (fun i wr => i = .int .i64 0 ∧ w.grownBy wr none) (fun _ _ => 0)
  case atStart => exact ⟨rfl, gb_refl _ _⟩
  obtain ⟨rfl, hg⟩ := hrel
  obtain ⟨w2, hmk, hg2⟩ := make_none 51 109 Try.underlying51 (by kernel_rfl) wr
  have hg3 := gb_trans hg hg2
  go_wp2
  go_loopw [6] (fun i wr => i = .int .i64 0 ∧ w.grownBy wr none) (fun _ _ => 0)
  case atStart => exact ⟨rfl, hg3⟩
  obtain ⟨rfl, hg⟩ := hrel
  go_wp2
  go_loopw [9] (fun i wr => i = .int .i64 0 ∧ w.grownBy wr none) (fun _ _ => 0)
  case atStart => exact ⟨rfl, hg⟩
  obtain ⟨rfl, hg⟩ := hrel
  go_wp2
  go_loopw [11] (fun i wr => i = .int .i64 0 ∧ w.grownBy wr none) (fun _ _ => 0)
  case atStart => exact ⟨rfl, hg⟩
  obtain ⟨rfl, hg⟩ := hrel
  go_wp2
  go_loopw [14] (fun i wr => i = .int .i64 0 ∧ w.grownBy wr none) (fun _ _ => 0)
  case atStart => exact ⟨rfl, hg⟩
  obtain ⟨rfl, hg⟩ := hrel
  go_wp2
  go_ret
  exact ⟨rfl, hg⟩
set_option maxRecDepth 100000 in
set_option maxHeartbeats 4000000 in
theorem flatLongs_nil (w : World) : Calls Try.prog 38 #[.slice none 0 0] w fun e w' => e = .returned (.bool true) ∧ w.grownBy w' none := by
  go_enter Try.func38, Try.ntmps38
  go_wp2
  go_loopw [3] (fun i wr => i = .int .i64 0 ∧ w.grownBy wr none) (fun _ _ => 0)
  case atStart => exact ⟨rfl, gb_refl _ _⟩
  obtain ⟨rfl, hg⟩ := hrel
  obtain ⟨w2, hmk, hg2⟩ := make_none 52 110 Try.underlying52 (by kernel_rfl) wr
  have hg3 := gb_trans hg hg2
  go_wp2
  go_loopw [6] (fun i wr => i = .int .i64 0 ∧ w.grownBy wr none) (fun _ _ => 0)
  case atStart => exact ⟨rfl, hg3⟩
  obtain ⟨rfl, hg⟩ := hrel
  go_wp2
  go_loopw [9] (fun i wr => i = .int .i64 0 ∧ w.grownBy wr none) (fun _ _ => 0)
  case atStart => exact ⟨rfl, hg⟩
  obtain ⟨rfl, hg⟩ := hrel
  go_wp2
  go_loopw [11] (fun i wr => i = .int .i64 0 ∧ w.grownBy wr none) (fun _ _ => 0)
  case atStart => exact ⟨rfl, hg⟩
  obtain ⟨rfl, hg⟩ := hrel
  go_wp2
  go_loopw [14] (fun i wr => i = .int .i64 0 ∧ w.grownBy wr none) (fun _ _ => 0)
  case atStart => exact ⟨rfl, hg⟩
  obtain ⟨rfl, hg⟩ := hrel
  go_wp2
  go_ret
  exact ⟨rfl, hg⟩
set_option maxRecDepth 100000 in
set_option maxHeartbeats 4000000 in
theorem flatTexts_nil (w : World) : Calls Try.prog 39 #[.slice none 0 0] w fun e w' => e = .returned (.bool true) ∧ w.grownBy w' none := by
  go_enter Try.func39, Try.ntmps39
  go_wp2
  go_loopw [3] (fun i wr => i = .int .i64 0 ∧ w.grownBy wr none) (fun _ _ => 0)
  case atStart => exact ⟨rfl, gb_refl _ _⟩
  obtain ⟨rfl, hg⟩ := hrel
  obtain ⟨w2, hmk, hg2⟩ := make_none 53 111 Try.underlying53 (by kernel_rfl) wr
  have hg3 := gb_trans hg hg2
  go_wp2
  go_loopw [6] (fun i wr => i = .int .i64 0 ∧ w.grownBy wr none) (fun _ _ => 0)
  case atStart => exact ⟨rfl, hg3⟩
  obtain ⟨rfl, hg⟩ := hrel
  go_wp2
  go_loopw [9] (fun i wr => i = .int .i64 0 ∧ w.grownBy wr none) (fun _ _ => 0)
  case atStart => exact ⟨rfl, hg⟩
  obtain ⟨rfl, hg⟩ := hrel
  go_wp2
  go_loopw [11] (fun i wr => i = .int .i64 0 ∧ w.grownBy wr none) (fun _ _ => 0)
  case atStart => exact ⟨rfl, hg⟩
  obtain ⟨rfl, hg⟩ := hrel
  go_wp2
  go_loopw [14] (fun i wr => i = .int .i64 0 ∧ w.grownBy wr none) (fun _ _ => 0)
  case atStart => exact ⟨rfl, hg⟩
  obtain ⟨rfl, hg⟩ := hrel
  go_wp2
  go_ret
  exact ⟨rfl, hg⟩
set_option maxRecDepth 100000 in
set_option maxHeartbeats 4000000 in
theorem flatBytes_nil (w : World) : Calls Try.prog 40 #[.slice none 0 0] w fun e w' => e = .returned (.bool true) ∧ w.grownBy w' none := by
  go_enter Try.func40, Try.ntmps40
  go_wp2
  go_loopw [3] (fun i wr => i = .int .i64 0 ∧ w.grownBy wr none) (fun _ _ => 0)
  case atStart => exact ⟨rfl, gb_refl _ _⟩
  obtain ⟨rfl, hg⟩ := hrel
  obtain ⟨w2, hmk, hg2⟩ := make_none 54 113 Try.underlying54 (by kernel_rfl) wr
  have hg3 := gb_trans hg hg2
  go_wp2
  go_loopw [6] (fun i wr => i = .int .i64 0 ∧ w.grownBy wr none) (fun _ _ => 0)
  case atStart => exact ⟨rfl, hg3⟩
  obtain ⟨rfl, hg⟩ := hrel
  go_wp2
  go_loopw [9] (fun i wr => i = .int .i64 0 ∧ w.grownBy wr none) (fun _ _ => 0)
  case atStart => exact ⟨rfl, hg⟩
  obtain ⟨rfl, hg⟩ := hrel
  go_wp2
  go_loopw [11] (fun i wr => i = .int .i64 0 ∧ w.grownBy wr none) (fun _ _ => 0)
  case atStart => exact ⟨rfl, hg⟩
  obtain ⟨rfl, hg⟩ := hrel
  go_wp2
  go_loopw [14] (fun i wr => i = .int .i64 0 ∧ w.grownBy wr none) (fun _ _ => 0)
  case atStart => exact ⟨rfl, hg⟩
  obtain ⟨rfl, hg⟩ := hrel
  go_wp2
  go_ret
  exact ⟨rfl, hg⟩
set_option maxRecDepth 100000 in
set_option maxHeartbeats 4000000 in
theorem flatTruths_nil (w : World) : Calls Try.prog 41 #[.slice none 0 0] w fun e w' => e = .returned (.bool true) ∧ w.grownBy w' none := by
  go_enter Try.func41, Try.ntmps41
  go_wp2
  go_loopw [3] (fun i wr => i = .int .i64 0 ∧ w.grownBy wr none) (fun _ _ => 0)
  case atStart => exact ⟨rfl, gb_refl _ _⟩
  obtain ⟨rfl, hg⟩ := hrel
  obtain ⟨w2, hmk, hg2⟩ := make_none 55 115 Try.underlying55 (by kernel_rfl) wr
  have hg3 := gb_trans hg hg2
  go_wp2
  go_loopw [6] (fun i wr => i = .int .i64 0 ∧ w.grownBy wr none) (fun _ _ => 0)
  case atStart => exact ⟨rfl, hg3⟩
  obtain ⟨rfl, hg⟩ := hrel
  go_wp2
  go_loopw [9] (fun i wr => i = .int .i64 0 ∧ w.grownBy wr none) (fun _ _ => 0)
  case atStart => exact ⟨rfl, hg⟩
  obtain ⟨rfl, hg⟩ := hrel
  go_wp2
  go_loopw [11] (fun i wr => i = .int .i64 0 ∧ w.grownBy wr none) (fun _ _ => 0)
  case atStart => exact ⟨rfl, hg⟩
  obtain ⟨rfl, hg⟩ := hrel
  go_wp2
  go_loopw [14] (fun i wr => i = .int .i64 0 ∧ w.grownBy wr none) (fun _ _ => 0)
  case atStart => exact ⟨rfl, hg⟩
  obtain ⟨rfl, hg⟩ := hrel
  go_wp2
  go_ret
  exact ⟨rfl, hg⟩
set_option maxRecDepth 100000 in
set_option maxHeartbeats 4000000 in
theorem flatRows_nil (w : World) : Calls Try.prog 42 #[.slice none 0 0] w fun e w' => e = .returned (.bool true) ∧ w.grownBy w' none := by
  go_enter Try.func42, Try.ntmps42
  go_wp2
  go_loopw [3] (fun i wr => i = .int .i64 0 ∧ w.grownBy wr none) (fun _ _ => 0)
  case atStart => exact ⟨rfl, gb_refl _ _⟩
  obtain ⟨rfl, hg⟩ := hrel
  obtain ⟨w2, hmk, hg2⟩ := make_none 56 54 Try.underlying56 (by kernel_rfl) wr
  have hg3 := gb_trans hg hg2
  go_wp2
  go_loopw [6] (fun i wr => i = .int .i64 0 ∧ w.grownBy wr none) (fun _ _ => 0)
  case atStart => exact ⟨rfl, hg3⟩
  obtain ⟨rfl, hg⟩ := hrel
  go_wp2
  go_loopw [9] (fun i wr => i = .int .i64 0 ∧ w.grownBy wr none) (fun _ _ => 0)
  case atStart => exact ⟨rfl, hg⟩
  obtain ⟨rfl, hg⟩ := hrel
  go_wp2
  go_loopw [11] (fun i wr => i = .int .i64 0 ∧ w.grownBy wr none) (fun _ _ => 0)
  case atStart => exact ⟨rfl, hg⟩
  obtain ⟨rfl, hg⟩ := hrel
  go_wp2
  go_loopw [14] (fun i wr => i = .int .i64 0 ∧ w.grownBy wr none) (fun _ _ => 0)
  case atStart => exact ⟨rfl, hg⟩
  obtain ⟨rfl, hg⟩ := hrel
  go_wp2
  go_ret
  exact ⟨rfl, hg⟩
set_option maxRecDepth 100000 in
set_option maxHeartbeats 4000000 in
theorem flatRecords_nil (w : World) : Calls Try.prog 44 #[.slice none 0 0] w fun e w' => e = .returned (.bool true) ∧ w.grownBy w' none := by
  go_enter Try.func44, Try.ntmps44
  go_wp2
  go_loopw [3] (fun i wr => i = .int .i64 0 ∧ w.grownBy wr none) (fun _ _ => 0)
  case atStart => exact ⟨rfl, gb_refl _ _⟩
  obtain ⟨rfl, hg⟩ := hrel
  obtain ⟨w2, hmk, hg2⟩ := make_none 57 118 Try.underlying57 (by kernel_rfl) wr
  have hg3 := gb_trans hg hg2
  go_wp2
  go_loopw [6] (fun i wr => i = .int .i64 0 ∧ w.grownBy wr none) (fun _ _ => 0)
  case atStart => exact ⟨rfl, hg3⟩
  obtain ⟨rfl, hg⟩ := hrel
  go_wp2
  go_loopw [9] (fun i wr => i = .int .i64 0 ∧ w.grownBy wr none) (fun _ _ => 0)
  case atStart => exact ⟨rfl, hg⟩
  obtain ⟨rfl, hg⟩ := hrel
  go_wp2
  go_loopw [11] (fun i wr => i = .int .i64 0 ∧ w.grownBy wr none) (fun _ _ => 0)
  case atStart => exact ⟨rfl, hg⟩
  obtain ⟨rfl, hg⟩ := hrel
  go_wp2
  go_loopw [14] (fun i wr => i = .int .i64 0 ∧ w.grownBy wr none) (fun _ _ => 0)
  case atStart => exact ⟨rfl, hg⟩
  obtain ⟨rfl, hg⟩ := hrel
  go_wp2
  go_ret
  exact ⟨rfl, hg⟩
set_option maxRecDepth 100000 in
set_option maxHeartbeats 4000000 in
theorem flatLeaves_nil (w : World) : Calls Try.prog 45 #[.slice none 0 0] w fun e w' => e = .returned (.bool true) ∧ w.grownBy w' none := by
  go_enter Try.func45, Try.ntmps45
  go_wp2
  go_loopw [3] (fun i wr => i = .int .i64 0 ∧ w.grownBy wr none) (fun _ _ => 0)
  case atStart => exact ⟨rfl, gb_refl _ _⟩
  obtain ⟨rfl, hg⟩ := hrel
  obtain ⟨w2, hmk, hg2⟩ := make_none 58 123 Try.underlying58 (by kernel_rfl) wr
  have hg3 := gb_trans hg hg2
  go_wp2
  go_loopw [6] (fun i wr => i = .int .i64 0 ∧ w.grownBy wr none) (fun _ _ => 0)
  case atStart => exact ⟨rfl, hg3⟩
  obtain ⟨rfl, hg⟩ := hrel
  go_wp2
  go_loopw [9] (fun i wr => i = .int .i64 0 ∧ w.grownBy wr none) (fun _ _ => 0)
  case atStart => exact ⟨rfl, hg⟩
  obtain ⟨rfl, hg⟩ := hrel
  go_wp2
  go_loopw [11] (fun i wr => i = .int .i64 0 ∧ w.grownBy wr none) (fun _ _ => 0)
  case atStart => exact ⟨rfl, hg⟩
  obtain ⟨rfl, hg⟩ := hrel
  go_wp2
  go_loopw [14] (fun i wr => i = .int .i64 0 ∧ w.grownBy wr none) (fun _ _ => 0)
  case atStart => exact ⟨rfl, hg⟩
  obtain ⟨rfl, hg⟩ := hrel
  go_wp2
  go_ret
  exact ⟨rfl, hg⟩
set_option maxRecDepth 100000 in
set_option maxHeartbeats 4000000 in
theorem flatGrants_nil (w : World) : Calls Try.prog 46 #[.slice none 0 0] w fun e w' => e = .returned (.bool true) ∧ w.grownBy w' none := by
  go_enter Try.func46, Try.ntmps46
  go_wp2
  go_loopw [3] (fun i wr => i = .int .i64 0 ∧ w.grownBy wr none) (fun _ _ => 0)
  case atStart => exact ⟨rfl, gb_refl _ _⟩
  obtain ⟨rfl, hg⟩ := hrel
  obtain ⟨w2, hmk, hg2⟩ := make_none 59 128 Try.underlying59 (by kernel_rfl) wr
  have hg3 := gb_trans hg hg2
  go_wp2
  go_loopw [6] (fun i wr => i = .int .i64 0 ∧ w.grownBy wr none) (fun _ _ => 0)
  case atStart => exact ⟨rfl, hg3⟩
  obtain ⟨rfl, hg⟩ := hrel
  go_wp2
  go_loopw [9] (fun i wr => i = .int .i64 0 ∧ w.grownBy wr none) (fun _ _ => 0)
  case atStart => exact ⟨rfl, hg⟩
  obtain ⟨rfl, hg⟩ := hrel
  go_wp2
  go_loopw [11] (fun i wr => i = .int .i64 0 ∧ w.grownBy wr none) (fun _ _ => 0)
  case atStart => exact ⟨rfl, hg⟩
  obtain ⟨rfl, hg⟩ := hrel
  go_wp2
  go_loopw [14] (fun i wr => i = .int .i64 0 ∧ w.grownBy wr none) (fun _ _ => 0)
  case atStart => exact ⟨rfl, hg⟩
  obtain ⟨rfl, hg⟩ := hrel
  go_wp2
  go_ret
  exact ⟨rfl, hg⟩
set_option maxRecDepth 100000 in
set_option maxHeartbeats 4000000 in
theorem flatNodes_nil (w : World) : Calls Try.prog 47 #[.slice none 0 0] w fun e w' => e = .returned (.bool true) ∧ w.grownBy w' none := by
  go_enter Try.func47, Try.ntmps47
  go_wp2
  go_loopw [3] (fun i wr => i = .int .i64 0 ∧ w.grownBy wr none) (fun _ _ => 0)
  case atStart => exact ⟨rfl, gb_refl _ _⟩
  obtain ⟨rfl, hg⟩ := hrel
  obtain ⟨w2, hmk, hg2⟩ := make_none 60 133 Try.underlying60 (by kernel_rfl) wr
  have hg3 := gb_trans hg hg2
  go_wp2
  go_loopw [6] (fun i wr => i = .int .i64 0 ∧ w.grownBy wr none) (fun _ _ => 0)
  case atStart => exact ⟨rfl, hg3⟩
  obtain ⟨rfl, hg⟩ := hrel
  go_wp2
  go_loopw [9] (fun i wr => i = .int .i64 0 ∧ w.grownBy wr none) (fun _ _ => 0)
  case atStart => exact ⟨rfl, hg⟩
  obtain ⟨rfl, hg⟩ := hrel
  go_wp2
  go_loopw [11] (fun i wr => i = .int .i64 0 ∧ w.grownBy wr none) (fun _ _ => 0)
  case atStart => exact ⟨rfl, hg⟩
  obtain ⟨rfl, hg⟩ := hrel
  go_wp2
  go_loopw [14] (fun i wr => i = .int .i64 0 ∧ w.grownBy wr none) (fun _ _ => 0)
  case atStart => exact ⟨rfl, hg⟩
  obtain ⟨rfl, hg⟩ := hrel
  go_wp2
  go_ret
  exact ⟨rfl, hg⟩
set_option maxRecDepth 100000 in
set_option maxHeartbeats 4000000 in
theorem flatStubs_nil (w : World) : Calls Try.prog 48 #[.slice none 0 0] w fun e w' => e = .returned (.bool true) ∧ w.grownBy w' none := by
  go_enter Try.func48, Try.ntmps48
  go_wp2
  go_loopw [3] (fun i wr => i = .int .i64 0 ∧ w.grownBy wr none) (fun _ _ => 0)
  case atStart => exact ⟨rfl, gb_refl _ _⟩
  obtain ⟨rfl, hg⟩ := hrel
  obtain ⟨w2, hmk, hg2⟩ := make_none 61 139 Try.underlying61 (by kernel_rfl) wr
  have hg3 := gb_trans hg hg2
  go_wp2
  go_loopw [6] (fun i wr => i = .int .i64 0 ∧ w.grownBy wr none) (fun _ _ => 0)
  case atStart => exact ⟨rfl, hg3⟩
  obtain ⟨rfl, hg⟩ := hrel
  go_wp2
  go_loopw [9] (fun i wr => i = .int .i64 0 ∧ w.grownBy wr none) (fun _ _ => 0)
  case atStart => exact ⟨rfl, hg⟩
  obtain ⟨rfl, hg⟩ := hrel
  go_wp2
  go_loopw [11] (fun i wr => i = .int .i64 0 ∧ w.grownBy wr none) (fun _ _ => 0)
  case atStart => exact ⟨rfl, hg⟩
  obtain ⟨rfl, hg⟩ := hrel
  go_wp2
  go_loopw [14] (fun i wr => i = .int .i64 0 ∧ w.grownBy wr none) (fun _ _ => 0)
  case atStart => exact ⟨rfl, hg⟩
  obtain ⟨rfl, hg⟩ := hrel
  go_wp2
  go_ret
  exact ⟨rfl, hg⟩
set_option maxRecDepth 100000 in
set_option maxHeartbeats 4000000 in
theorem flatProofs_nil (w : World) : Calls Try.prog 49 #[.slice none 0 0] w fun e w' => e = .returned (.bool true) ∧ w.grownBy w' none := by
  go_enter Try.func49, Try.ntmps49
  go_wp2
  go_loopw [3] (fun i wr => i = .int .i64 0 ∧ w.grownBy wr none) (fun _ _ => 0)
  case atStart => exact ⟨rfl, gb_refl _ _⟩
  obtain ⟨rfl, hg⟩ := hrel
  obtain ⟨w2, hmk, hg2⟩ := make_none 62 144 Try.underlying62 (by kernel_rfl) wr
  have hg3 := gb_trans hg hg2
  go_wp2
  go_loopw [6] (fun i wr => i = .int .i64 0 ∧ w.grownBy wr none) (fun _ _ => 0)
  case atStart => exact ⟨rfl, hg3⟩
  obtain ⟨rfl, hg⟩ := hrel
  go_wp2
  go_loopw [9] (fun i wr => i = .int .i64 0 ∧ w.grownBy wr none) (fun _ _ => 0)
  case atStart => exact ⟨rfl, hg⟩
  obtain ⟨rfl, hg⟩ := hrel
  go_wp2
  go_loopw [11] (fun i wr => i = .int .i64 0 ∧ w.grownBy wr none) (fun _ _ => 0)
  case atStart => exact ⟨rfl, hg⟩
  obtain ⟨rfl, hg⟩ := hrel
  go_wp2
  go_loopw [14] (fun i wr => i = .int .i64 0 ∧ w.grownBy wr none) (fun _ _ => 0)
  case atStart => exact ⟨rfl, hg⟩
  obtain ⟨rfl, hg⟩ := hrel
  go_wp2
  go_ret
  exact ⟨rfl, hg⟩
set_option maxRecDepth 100000 in
set_option maxHeartbeats 4000000 in
theorem flatRoots_nil (w : World) : Calls Try.prog 50 #[.slice none 0 0] w fun e w' => e = .returned (.bool true) ∧ w.grownBy w' none := by
  go_enter Try.func50, Try.ntmps50
  go_wp2
  go_loopw [3] (fun i wr => i = .int .i64 0 ∧ w.grownBy wr none) (fun _ _ => 0)
  case atStart => exact ⟨rfl, gb_refl _ _⟩
  obtain ⟨rfl, hg⟩ := hrel
  obtain ⟨w2, hmk, hg2⟩ := make_none 63 149 Try.underlying63 (by kernel_rfl) wr
  have hg3 := gb_trans hg hg2
  go_wp2
  go_loopw [6] (fun i wr => i = .int .i64 0 ∧ w.grownBy wr none) (fun _ _ => 0)
  case atStart => exact ⟨rfl, hg3⟩
  obtain ⟨rfl, hg⟩ := hrel
  go_wp2
  go_loopw [9] (fun i wr => i = .int .i64 0 ∧ w.grownBy wr none) (fun _ _ => 0)
  case atStart => exact ⟨rfl, hg⟩
  obtain ⟨rfl, hg⟩ := hrel
  go_wp2
  go_loopw [11] (fun i wr => i = .int .i64 0 ∧ w.grownBy wr none) (fun _ _ => 0)
  case atStart => exact ⟨rfl, hg⟩
  obtain ⟨rfl, hg⟩ := hrel
  go_wp2
  go_loopw [14] (fun i wr => i = .int .i64 0 ∧ w.grownBy wr none) (fun _ _ => 0)
  case atStart => exact ⟨rfl, hg⟩
  obtain ⟨rfl, hg⟩ := hrel
  go_wp2
  go_ret
  exact ⟨rfl, hg⟩
set_option maxRecDepth 100000 in
set_option maxHeartbeats 4000000 in
theorem flatEvidenceRow_nil (w : World) : Calls Try.prog 51 #[.slice none 0 0] w fun e w' => e = .returned (.bool true) ∧ w.grownBy w' none := by
  go_enter Try.func51, Try.ntmps51
  go_wp2
  go_loopw [3] (fun i wr => i = .int .i64 0 ∧ w.grownBy wr none) (fun _ _ => 0)
  case atStart => exact ⟨rfl, gb_refl _ _⟩
  obtain ⟨rfl, hg⟩ := hrel
  obtain ⟨w2, hmk, hg2⟩ := make_none 64 154 Try.underlying64 (by kernel_rfl) wr
  have hg3 := gb_trans hg hg2
  go_wp2
  go_loopw [6] (fun i wr => i = .int .i64 0 ∧ w.grownBy wr none) (fun _ _ => 0)
  case atStart => exact ⟨rfl, hg3⟩
  obtain ⟨rfl, hg⟩ := hrel
  go_wp2
  go_loopw [9] (fun i wr => i = .int .i64 0 ∧ w.grownBy wr none) (fun _ _ => 0)
  case atStart => exact ⟨rfl, hg⟩
  obtain ⟨rfl, hg⟩ := hrel
  go_wp2
  go_loopw [11] (fun i wr => i = .int .i64 0 ∧ w.grownBy wr none) (fun _ _ => 0)
  case atStart => exact ⟨rfl, hg⟩
  obtain ⟨rfl, hg⟩ := hrel
  go_wp2
  go_loopw [14] (fun i wr => i = .int .i64 0 ∧ w.grownBy wr none) (fun _ _ => 0)
  case atStart => exact ⟨rfl, hg⟩
  obtain ⟨rfl, hg⟩ := hrel
  go_wp2
  go_ret
  exact ⟨rfl, hg⟩
set_option maxRecDepth 100000 in
set_option maxHeartbeats 4000000 in
theorem flatFrames_nil (w : World) : Calls Try.prog 52 #[.slice none 0 0] w fun e w' => e = .returned (.bool true) ∧ w.grownBy w' none := by
  go_enter Try.func52, Try.ntmps52
  go_wp2
  go_loopw [3] (fun i wr => i = .int .i64 0 ∧ w.grownBy wr none) (fun _ _ => 0)
  case atStart => exact ⟨rfl, gb_refl _ _⟩
  obtain ⟨rfl, hg⟩ := hrel
  obtain ⟨w2, hmk, hg2⟩ := make_none 65 159 Try.underlying65 (by kernel_rfl) wr
  have hg3 := gb_trans hg hg2
  go_wp2
  go_loopw [6] (fun i wr => i = .int .i64 0 ∧ w.grownBy wr none) (fun _ _ => 0)
  case atStart => exact ⟨rfl, hg3⟩
  obtain ⟨rfl, hg⟩ := hrel
  go_wp2
  go_loopw [9] (fun i wr => i = .int .i64 0 ∧ w.grownBy wr none) (fun _ _ => 0)
  case atStart => exact ⟨rfl, hg⟩
  obtain ⟨rfl, hg⟩ := hrel
  go_wp2
  go_loopw [11] (fun i wr => i = .int .i64 0 ∧ w.grownBy wr none) (fun _ _ => 0)
  case atStart => exact ⟨rfl, hg⟩
  obtain ⟨rfl, hg⟩ := hrel
  go_wp2
  go_loopw [14] (fun i wr => i = .int .i64 0 ∧ w.grownBy wr none) (fun _ _ => 0)
  case atStart => exact ⟨rfl, hg⟩
  obtain ⟨rfl, hg⟩ := hrel
  go_wp2
  go_ret
  exact ⟨rfl, hg⟩
set_option maxRecDepth 100000 in
set_option maxHeartbeats 4000000 in
theorem flatPackets_nil (w : World) : Calls Try.prog 53 #[.slice none 0 0] w fun e w' => e = .returned (.bool true) ∧ w.grownBy w' none := by
  go_enter Try.func53, Try.ntmps53
  go_wp2
  go_loopw [3] (fun i wr => i = .int .i64 0 ∧ w.grownBy wr none) (fun _ _ => 0)
  case atStart => exact ⟨rfl, gb_refl _ _⟩
  obtain ⟨rfl, hg⟩ := hrel
  obtain ⟨w2, hmk, hg2⟩ := make_none 66 166 Try.underlying66 (by kernel_rfl) wr
  have hg3 := gb_trans hg hg2
  go_wp2
  go_loopw [6] (fun i wr => i = .int .i64 0 ∧ w.grownBy wr none) (fun _ _ => 0)
  case atStart => exact ⟨rfl, hg3⟩
  obtain ⟨rfl, hg⟩ := hrel
  go_wp2
  go_loopw [9] (fun i wr => i = .int .i64 0 ∧ w.grownBy wr none) (fun _ _ => 0)
  case atStart => exact ⟨rfl, hg⟩
  obtain ⟨rfl, hg⟩ := hrel
  go_wp2
  go_loopw [11] (fun i wr => i = .int .i64 0 ∧ w.grownBy wr none) (fun _ _ => 0)
  case atStart => exact ⟨rfl, hg⟩
  obtain ⟨rfl, hg⟩ := hrel
  go_wp2
  go_loopw [14] (fun i wr => i = .int .i64 0 ∧ w.grownBy wr none) (fun _ _ => 0)
  case atStart => exact ⟨rfl, hg⟩
  obtain ⟨rfl, hg⟩ := hrel
  go_wp2
  go_ret
  exact ⟨rfl, hg⟩
set_option maxRecDepth 100000 in
set_option maxHeartbeats 4000000 in
theorem flatEntries_nil (w : World) : Calls Try.prog 54 #[.slice none 0 0] w fun e w' => e = .returned (.bool true) ∧ w.grownBy w' none := by
  go_enter Try.func54, Try.ntmps54
  go_wp2
  go_loopw [3] (fun i wr => i = .int .i64 0 ∧ w.grownBy wr none) (fun _ _ => 0)
  case atStart => exact ⟨rfl, gb_refl _ _⟩
  obtain ⟨rfl, hg⟩ := hrel
  obtain ⟨w2, hmk, hg2⟩ := make_none 67 171 Try.underlying67 (by kernel_rfl) wr
  have hg3 := gb_trans hg hg2
  go_wp2
  go_loopw [6] (fun i wr => i = .int .i64 0 ∧ w.grownBy wr none) (fun _ _ => 0)
  case atStart => exact ⟨rfl, hg3⟩
  obtain ⟨rfl, hg⟩ := hrel
  go_wp2
  go_loopw [9] (fun i wr => i = .int .i64 0 ∧ w.grownBy wr none) (fun _ _ => 0)
  case atStart => exact ⟨rfl, hg⟩
  obtain ⟨rfl, hg⟩ := hrel
  go_wp2
  go_loopw [11] (fun i wr => i = .int .i64 0 ∧ w.grownBy wr none) (fun _ _ => 0)
  case atStart => exact ⟨rfl, hg⟩
  obtain ⟨rfl, hg⟩ := hrel
  go_wp2
  go_loopw [14] (fun i wr => i = .int .i64 0 ∧ w.grownBy wr none) (fun _ _ => 0)
  case atStart => exact ⟨rfl, hg⟩
  obtain ⟨rfl, hg⟩ := hrel
  go_wp2
  go_ret
  exact ⟨rfl, hg⟩
set_option maxRecDepth 100000 in
set_option maxHeartbeats 4000000 in
theorem flatHeldRow_nil (w : World) : Calls Try.prog 55 #[.slice none 0 0] w fun e w' => e = .returned (.bool true) ∧ w.grownBy w' none := by
  go_enter Try.func55, Try.ntmps55
  go_wp2
  go_loopw [3] (fun i wr => i = .int .i64 0 ∧ w.grownBy wr none) (fun _ _ => 0)
  case atStart => exact ⟨rfl, gb_refl _ _⟩
  obtain ⟨rfl, hg⟩ := hrel
  obtain ⟨w2, hmk, hg2⟩ := make_none 68 177 Try.underlying68 (by kernel_rfl) wr
  have hg3 := gb_trans hg hg2
  go_wp2
  go_loopw [6] (fun i wr => i = .int .i64 0 ∧ w.grownBy wr none) (fun _ _ => 0)
  case atStart => exact ⟨rfl, hg3⟩
  obtain ⟨rfl, hg⟩ := hrel
  go_wp2
  go_loopw [9] (fun i wr => i = .int .i64 0 ∧ w.grownBy wr none) (fun _ _ => 0)
  case atStart => exact ⟨rfl, hg⟩
  obtain ⟨rfl, hg⟩ := hrel
  go_wp2
  go_loopw [11] (fun i wr => i = .int .i64 0 ∧ w.grownBy wr none) (fun _ _ => 0)
  case atStart => exact ⟨rfl, hg⟩
  obtain ⟨rfl, hg⟩ := hrel
  go_wp2
  go_loopw [14] (fun i wr => i = .int .i64 0 ∧ w.grownBy wr none) (fun _ _ => 0)
  case atStart => exact ⟨rfl, hg⟩
  obtain ⟨rfl, hg⟩ := hrel
  go_wp2
  go_ret
  exact ⟨rfl, hg⟩
set_option maxRecDepth 100000 in
set_option maxHeartbeats 4000000 in
theorem flatConfigs_nil (w : World) : Calls Try.prog 56 #[.slice none 0 0] w fun e w' => e = .returned (.bool true) ∧ w.grownBy w' none := by
  go_enter Try.func56, Try.ntmps56
  go_wp2
  go_loopw [3] (fun i wr => i = .int .i64 0 ∧ w.grownBy wr none) (fun _ _ => 0)
  case atStart => exact ⟨rfl, gb_refl _ _⟩
  obtain ⟨rfl, hg⟩ := hrel
  obtain ⟨w2, hmk, hg2⟩ := make_none 69 182 Try.underlying69 (by kernel_rfl) wr
  have hg3 := gb_trans hg hg2
  go_wp2
  go_loopw [6] (fun i wr => i = .int .i64 0 ∧ w.grownBy wr none) (fun _ _ => 0)
  case atStart => exact ⟨rfl, hg3⟩
  obtain ⟨rfl, hg⟩ := hrel
  go_wp2
  go_loopw [9] (fun i wr => i = .int .i64 0 ∧ w.grownBy wr none) (fun _ _ => 0)
  case atStart => exact ⟨rfl, hg⟩
  obtain ⟨rfl, hg⟩ := hrel
  go_wp2
  go_loopw [11] (fun i wr => i = .int .i64 0 ∧ w.grownBy wr none) (fun _ _ => 0)
  case atStart => exact ⟨rfl, hg⟩
  obtain ⟨rfl, hg⟩ := hrel
  go_wp2
  go_loopw [14] (fun i wr => i = .int .i64 0 ∧ w.grownBy wr none) (fun _ _ => 0)
  case atStart => exact ⟨rfl, hg⟩
  obtain ⟨rfl, hg⟩ := hrel
  go_wp2
  go_ret
  exact ⟨rfl, hg⟩
set_option maxRecDepth 100000 in
set_option maxHeartbeats 4000000 in
theorem flatSteps_nil (w : World) : Calls Try.prog 57 #[.slice none 0 0] w fun e w' => e = .returned (.bool true) ∧ w.grownBy w' none := by
  go_enter Try.func57, Try.ntmps57
  go_wp2
  go_loopw [3] (fun i wr => i = .int .i64 0 ∧ w.grownBy wr none) (fun _ _ => 0)
  case atStart => exact ⟨rfl, gb_refl _ _⟩
  obtain ⟨rfl, hg⟩ := hrel
  obtain ⟨w2, hmk, hg2⟩ := make_none 70 187 Try.underlying70 (by kernel_rfl) wr
  have hg3 := gb_trans hg hg2
  go_wp2
  go_loopw [6] (fun i wr => i = .int .i64 0 ∧ w.grownBy wr none) (fun _ _ => 0)
  case atStart => exact ⟨rfl, hg3⟩
  obtain ⟨rfl, hg⟩ := hrel
  go_wp2
  go_loopw [9] (fun i wr => i = .int .i64 0 ∧ w.grownBy wr none) (fun _ _ => 0)
  case atStart => exact ⟨rfl, hg⟩
  obtain ⟨rfl, hg⟩ := hrel
  go_wp2
  go_loopw [11] (fun i wr => i = .int .i64 0 ∧ w.grownBy wr none) (fun _ _ => 0)
  case atStart => exact ⟨rfl, hg⟩
  obtain ⟨rfl, hg⟩ := hrel
  go_wp2
  go_loopw [14] (fun i wr => i = .int .i64 0 ∧ w.grownBy wr none) (fun _ _ => 0)
  case atStart => exact ⟨rfl, hg⟩
  obtain ⟨rfl, hg⟩ := hrel
  go_wp2
  go_ret
  exact ⟨rfl, hg⟩
set_option maxRecDepth 100000 in
set_option maxHeartbeats 4000000 in
theorem flatTales_nil (w : World) : Calls Try.prog 58 #[.slice none 0 0] w fun e w' => e = .returned (.bool true) ∧ w.grownBy w' none := by
  go_enter Try.func58, Try.ntmps58
  go_wp2
  go_loopw [3] (fun i wr => i = .int .i64 0 ∧ w.grownBy wr none) (fun _ _ => 0)
  case atStart => exact ⟨rfl, gb_refl _ _⟩
  obtain ⟨rfl, hg⟩ := hrel
  obtain ⟨w2, hmk, hg2⟩ := make_none 71 193 Try.underlying71 (by kernel_rfl) wr
  have hg3 := gb_trans hg hg2
  go_wp2
  go_loopw [6] (fun i wr => i = .int .i64 0 ∧ w.grownBy wr none) (fun _ _ => 0)
  case atStart => exact ⟨rfl, hg3⟩
  obtain ⟨rfl, hg⟩ := hrel
  go_wp2
  go_loopw [9] (fun i wr => i = .int .i64 0 ∧ w.grownBy wr none) (fun _ _ => 0)
  case atStart => exact ⟨rfl, hg⟩
  obtain ⟨rfl, hg⟩ := hrel
  go_wp2
  go_loopw [11] (fun i wr => i = .int .i64 0 ∧ w.grownBy wr none) (fun _ _ => 0)
  case atStart => exact ⟨rfl, hg⟩
  obtain ⟨rfl, hg⟩ := hrel
  go_wp2
  go_loopw [14] (fun i wr => i = .int .i64 0 ∧ w.grownBy wr none) (fun _ _ => 0)
  case atStart => exact ⟨rfl, hg⟩
  obtain ⟨rfl, hg⟩ := hrel
  go_wp2
  go_ret
  exact ⟨rfl, hg⟩
end Fd
end Go.Proofs.Ytkffbaihknhefaa
