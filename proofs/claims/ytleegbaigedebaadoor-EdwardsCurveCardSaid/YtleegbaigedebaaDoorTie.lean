/-
  DERIVED. GIVEN WITH THE SEED: THE PROGRAM's TIES (one call each: nine closed facts by the kernel) AND EACH ROW's TIE, after the 31st guide's Derived/Test/Toyas{Tie, Card}.lean. No idea stands in it: it is a product of the set-up. Laid BY PROGRAM, IN A SANDBOX (cutbox-door.mjs). By AI agents, Wed Nov 11 2026. No macro, syntax, notation, axiom, sorry.
-/
import Derived.Test.YtleegbaigedebaaDoorRows
import Derived.LaidByTextLater
import Derived.SevenTiedAt
import Derived.LaidSub
import Derived.LaidOnce
namespace Go.Proofs.YtleegbaigedebaaDoor
open Go
set_option maxRecDepth 100000
theorem seatTie1 : Tryd.prog.laidByTextLater [("buttress/scalar.order", Rows.laid_buttress_scalar_order), ("buttress/field.fourTimesP", Rows.laid_buttress_field_fourTimesP), ("buttress/field.rootOfMinusOne", Rows.laid_buttress_field_rootOfMinusOne), ("buttress/edwards.d", Rows.laid_buttress_edwards_d), ("buttress/edwards.base", Rows.laid_buttress_edwards_base)] [.data, .data, .data, .data, .data] true :=
  Program.laidByTextLater_by_one 38 8 21 (by kernel_rfl) (by kernel_rfl) (by kernel_rfl) (by kernel_rfl) (by kernel_rfl) (by kernel_rfl) (fun _ _ => by kernel_rfl)
theorem noOwnUnsafe : Tryd.pinned.checked.prog.headLifts.contains "ownunsafe" = false := by kernel_rfl
theorem tie : Tryd.prog.laidByTextLater [("buttress/field.fourTimesP", Rows.laid_buttress_field_fourTimesP), ("buttress/field.rootOfMinusOne", Rows.laid_buttress_field_rootOfMinusOne), ("buttress/edwards.d", Rows.laid_buttress_edwards_d), ("buttress/edwards.base", Rows.laid_buttress_edwards_base)] [.data, .data, .data, .data] true :=
  Program.laidByTextLater.sub seatTie1 ["buttress/field.fourTimesP", "buttress/field.rootOfMinusOne", "buttress/edwards.d", "buttress/edwards.base"] (by kernel_rfl) (by kernel_rfl)
theorem edwardsGroup_row_tie : Rows.edwardsGroupRow.laidByTextAt .later Tryd.pinned [.data, .data, .data, .data] true :=
  OpenClaim.laidByTextAt_later rfl rfl tie noOwnUnsafe
theorem edwardsCurve_row_tie : Rows.edwardsCurveRow.laidByTextAt .later Tryd.pinned [.data, .data, .data, .data] true :=
  OpenClaim.laidByTextAt_later rfl rfl tie noOwnUnsafe
theorem tie2 : Tryd.prog.laidByTextLater [("buttress/scalar.order", Rows.laid_buttress_scalar_order), ("buttress/field.fourTimesP", Rows.laid_buttress_field_fourTimesP), ("buttress/field.rootOfMinusOne", Rows.laid_buttress_field_rootOfMinusOne), ("buttress/edwards.d", Rows.laid_buttress_edwards_d), ("buttress/edwards.base", Rows.laid_buttress_edwards_base)] [.data, .data, .data, .data, .data] true :=
  Program.laidByTextLater.sub seatTie1 ["buttress/scalar.order", "buttress/field.fourTimesP", "buttress/field.rootOfMinusOne", "buttress/edwards.d", "buttress/edwards.base"] (by kernel_rfl) (by kernel_rfl)
theorem edwardsOften_row_tie : Rows.edwardsOftenRow.laidByTextAt .later Tryd.pinned [.data, .data, .data, .data, .data] true :=
  OpenClaim.laidByTextAt_later rfl rfl tie2 noOwnUnsafe
theorem edwardsGroupUpto_row_tie : Rows.edwardsGroupUptoRow.laidByTextAt .later Tryd.pinned [.data, .data, .data, .data] true :=
  OpenClaim.laidByTextAt_later rfl rfl tie noOwnUnsafe
theorem edwardsOftenUpto_row_tie : Rows.edwardsOftenUptoRow.laidByTextAt .later Tryd.pinned [.data, .data, .data, .data, .data] true :=
  OpenClaim.laidByTextAt_later rfl rfl tie2 noOwnUnsafe
theorem edwardsCurveUpto_row_tie : Rows.edwardsCurveUptoRow.laidByTextAt .later Tryd.pinned [.data, .data, .data, .data] true :=
  OpenClaim.laidByTextAt_later rfl rfl tie noOwnUnsafe
end Go.Proofs.YtleegbaigedebaaDoor
