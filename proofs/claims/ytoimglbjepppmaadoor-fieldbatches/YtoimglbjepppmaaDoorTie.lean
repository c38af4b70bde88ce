/-
  DERIVED. GIVEN WITH THE SEED: THE PROGRAM's TIES (one call each: nine closed facts by the kernel) AND EACH ROW's TIE, after the 31st guide's Derived/Test/Toyas{Tie, Card}.lean. No idea stands in it: it is a product of the set-up. Laid BY PROGRAM, IN A SANDBOX (cutbox-door.mjs). By AI agents, Wed Nov 11 2026. No macro, syntax, notation, axiom, sorry.
-/
import Derived.Test.YtoimglbjepppmaaDoorRows
import Derived.LaidByTextLater
import Derived.SevenTiedAt
import Derived.LaidSub
import Derived.LaidOnce
namespace Go.Proofs.YtoimglbjepppmaaDoor
open Go
set_option maxRecDepth 100000
theorem seatTie1 : Tryd.prog.laidByTextLater [("ledger/ledgerref04.dBytes", Rows.laid_ledger_ledgerref04_dBytes), ("ledger/field.one", Rows.laid_ledger_field_one), ("ledger/field.rootOfMinusOne", Rows.laid_ledger_field_rootOfMinusOne), ("ledger/field.powers", Rows.laid_ledger_field_powers), ("ledger/point.one", Rows.laid_ledger_point_one), ("ledger/point.d", Rows.laid_ledger_point_d)] [.data, .data, .data, .data, .data, .data] true :=
  Program.laidByTextLater_by_one 49 8 33 (by kernel_rfl) (by kernel_rfl) (by kernel_rfl) (by kernel_rfl) (by kernel_rfl) (by kernel_rfl) (fun _ _ => by kernel_rfl)
theorem noOwnUnsafe : Tryd.pinned.checked.prog.headLifts.contains "ownunsafe" = false := by kernel_rfl
theorem tie : Tryd.prog.laidByTextLater [("ledger/field.one", Rows.laid_ledger_field_one), ("ledger/field.powers", Rows.laid_ledger_field_powers)] [.data, .data] true :=
  Program.laidByTextLater.sub seatTie1 ["ledger/field.one", "ledger/field.powers"] (by kernel_rfl) (by kernel_rfl)
theorem fieldBatches_row_tie : Rows.fieldBatchesRow.laidByTextAt .later Tryd.pinned [.data, .data] true :=
  OpenClaim.laidByTextAt_later rfl rfl tie noOwnUnsafe
theorem tie2 : Tryd.prog.laidByTextLater [("ledger/field.one", Rows.laid_ledger_field_one), ("ledger/field.rootOfMinusOne", Rows.laid_ledger_field_rootOfMinusOne), ("ledger/field.powers", Rows.laid_ledger_field_powers)] [.data, .data, .data] true :=
  Program.laidByTextLater.sub seatTie1 ["ledger/field.one", "ledger/field.rootOfMinusOne", "ledger/field.powers"] (by kernel_rfl) (by kernel_rfl)
theorem fieldRoots_row_tie : Rows.fieldRootsRow.laidByTextAt .later Tryd.pinned [.data, .data, .data] true :=
  OpenClaim.laidByTextAt_later rfl rfl tie2 noOwnUnsafe
theorem tie3 : Tryd.prog.laidByTextLater [("ledger/ledgerref04.dBytes", Rows.laid_ledger_ledgerref04_dBytes)] [.data] true :=
  Program.laidByTextLater.sub seatTie1 ["ledger/ledgerref04.dBytes"] (by kernel_rfl) (by kernel_rfl)
theorem pointFirst_row_tie : Rows.pointFirstRow.laidByTextAt .later Tryd.pinned [.data] true :=
  OpenClaim.laidByTextAt_later rfl rfl tie3 noOwnUnsafe
theorem tie4 : Tryd.prog.laidByTextLater [("ledger/field.one", Rows.laid_ledger_field_one), ("ledger/field.rootOfMinusOne", Rows.laid_ledger_field_rootOfMinusOne), ("ledger/field.powers", Rows.laid_ledger_field_powers), ("ledger/point.one", Rows.laid_ledger_point_one), ("ledger/point.d", Rows.laid_ledger_point_d)] [.data, .data, .data, .data, .data] true :=
  Program.laidByTextLater.sub seatTie1 ["ledger/field.one", "ledger/field.rootOfMinusOne", "ledger/field.powers", "ledger/point.one", "ledger/point.d"] (by kernel_rfl) (by kernel_rfl)
theorem pointForms_row_tie : Rows.pointFormsRow.laidByTextAt .later Tryd.pinned [.data, .data, .data, .data, .data] true :=
  OpenClaim.laidByTextAt_later rfl rfl tie4 noOwnUnsafe
theorem tie5 : Tryd.prog.laidByTextLater [("ledger/ledgerref04.dBytes", Rows.laid_ledger_ledgerref04_dBytes), ("ledger/field.rootOfMinusOne", Rows.laid_ledger_field_rootOfMinusOne), ("ledger/field.powers", Rows.laid_ledger_field_powers), ("ledger/point.one", Rows.laid_ledger_point_one), ("ledger/point.d", Rows.laid_ledger_point_d)] [.data, .data, .data, .data, .data] true :=
  Program.laidByTextLater.sub seatTie1 ["ledger/ledgerref04.dBytes", "ledger/field.rootOfMinusOne", "ledger/field.powers", "ledger/point.one", "ledger/point.d"] (by kernel_rfl) (by kernel_rfl)
theorem pointDecodes_row_tie : Rows.pointDecodesRow.laidByTextAt .later Tryd.pinned [.data, .data, .data, .data, .data] true :=
  OpenClaim.laidByTextAt_later rfl rfl tie5 noOwnUnsafe
theorem tie6 : Tryd.prog.laidByTextLater [("ledger/ledgerref04.dBytes", Rows.laid_ledger_ledgerref04_dBytes), ("ledger/field.powers", Rows.laid_ledger_field_powers), ("ledger/point.one", Rows.laid_ledger_point_one), ("ledger/point.d", Rows.laid_ledger_point_d)] [.data, .data, .data, .data] true :=
  Program.laidByTextLater.sub seatTie1 ["ledger/ledgerref04.dBytes", "ledger/field.powers", "ledger/point.one", "ledger/point.d"] (by kernel_rfl) (by kernel_rfl)
theorem pointPairs_row_tie : Rows.pointPairsRow.laidByTextAt .later Tryd.pinned [.data, .data, .data, .data] true :=
  OpenClaim.laidByTextAt_later rfl rfl tie6 noOwnUnsafe
theorem fieldBatchesUpto_row_tie : Rows.fieldBatchesUptoRow.laidByTextAt .later Tryd.pinned [.data, .data] true :=
  OpenClaim.laidByTextAt_later rfl rfl tie noOwnUnsafe
theorem fieldRootsUpto_row_tie : Rows.fieldRootsUptoRow.laidByTextAt .later Tryd.pinned [.data, .data, .data] true :=
  OpenClaim.laidByTextAt_later rfl rfl tie2 noOwnUnsafe
theorem pointFirstUpto_row_tie : Rows.pointFirstUptoRow.laidByTextAt .later Tryd.pinned [.data] true :=
  OpenClaim.laidByTextAt_later rfl rfl tie3 noOwnUnsafe
theorem pointFormsUpto_row_tie : Rows.pointFormsUptoRow.laidByTextAt .later Tryd.pinned [.data, .data, .data, .data, .data] true :=
  OpenClaim.laidByTextAt_later rfl rfl tie4 noOwnUnsafe
theorem pointDecodesUpto_row_tie : Rows.pointDecodesUptoRow.laidByTextAt .later Tryd.pinned [.data, .data, .data, .data, .data] true :=
  OpenClaim.laidByTextAt_later rfl rfl tie5 noOwnUnsafe
theorem pointPairsUpto_row_tie : Rows.pointPairsUptoRow.laidByTextAt .later Tryd.pinned [.data, .data, .data, .data] true :=
  OpenClaim.laidByTextAt_later rfl rfl tie6 noOwnUnsafe
end Go.Proofs.YtoimglbjepppmaaDoor
