/-
  DERIVED. GIVEN WITH THE SEED: THE PROGRAM's TIES (one call each: nine closed facts by the kernel) AND EACH ROW's TIE, after the 31st guide's Derived/Test/Toyas{Tie, Card}.lean. No idea stands in it: it is a product of the set-up. Laid BY PROGRAM, IN A SANDBOX (cutbox-door.mjs). By AI agents, Wed Nov 11 2026. No macro, syntax, notation, axiom, sorry.
-/
import Derived.Test.YtkegcilcapnpdaaDoorRows
import Derived.LaidByTextLater
import Derived.SevenTiedAt
import Derived.LaidSub
import Derived.LaidOnce
namespace Go.Proofs.YtkegcilcapnpdaaDoor
open Go
set_option maxRecDepth 100000
theorem seatTie1 : Tryd.prog.laidByTextLater [("ledger/ledgerref02.prime", Rows.laid_ledger_ledgerref02_prime), ("ledger/field.one", Rows.laid_ledger_field_one), ("ledger/field.rootOfMinusOne", Rows.laid_ledger_field_rootOfMinusOne), ("ledger/field.powers", Rows.laid_ledger_field_powers), ("ledger/point.one", Rows.laid_ledger_point_one), ("ledger/point.d", Rows.laid_ledger_point_d)] [.data, .data, .data, .data, .data, .data] true :=
  Program.laidByTextLater_by_one 49 8 33 (by kernel_rfl) (by kernel_rfl) (by kernel_rfl) (by kernel_rfl) (by kernel_rfl) (by kernel_rfl) (fun _ _ => by kernel_rfl)
theorem noOwnUnsafe : Tryd.pinned.checked.prog.headLifts.contains "ownunsafe" = false := by kernel_rfl
theorem tie : Tryd.prog.laidByTextLater [("ledger/field.one", Rows.laid_ledger_field_one), ("ledger/field.powers", Rows.laid_ledger_field_powers)] [.data, .data] true :=
  Program.laidByTextLater.sub seatTie1 ["ledger/field.one", "ledger/field.powers"] (by kernel_rfl) (by kernel_rfl)
theorem fieldBatches_row_tie : Rows.fieldBatchesRow.laidByTextAt .later Tryd.pinned [.data, .data] true :=
  OpenClaim.laidByTextAt_later rfl rfl tie noOwnUnsafe
theorem tie2 : Tryd.prog.laidByTextLater [("ledger/field.one", Rows.laid_ledger_field_one), ("ledger/field.rootOfMinusOne", Rows.laid_ledger_field_rootOfMinusOne), ("ledger/field.powers", Rows.laid_ledger_field_powers)] [.data, .data, .data] true :=
  Program.laidByTextLater.sub seatTie1 ["ledger/field.one", "ledger/field.rootOfMinusOne", "ledger/field.powers"] (by kernel_rfl) (by kernel_rfl)
theorem fieldRoots_row_tie : Rows.fieldRootsRow.laidByTextAt .later Tryd.pinned [.data, .data, .data] true :=
  OpenClaim.laidByTextAt_later rfl rfl tie2 noOwnUnsafe
theorem tie3 : Tryd.prog.laidByTextLater [("ledger/ledgerref02.prime", Rows.laid_ledger_ledgerref02_prime)] [.data] true :=
  Program.laidByTextLater.sub seatTie1 ["ledger/ledgerref02.prime"] (by kernel_rfl) (by kernel_rfl)
theorem fieldProducts_row_tie : Rows.fieldProductsRow.laidByTextAt .later Tryd.pinned [.data] true :=
  OpenClaim.laidByTextAt_later rfl rfl tie3 noOwnUnsafe
theorem tie4 : Tryd.prog.laidByTextLater [("ledger/ledgerref02.prime", Rows.laid_ledger_ledgerref02_prime), ("ledger/field.one", Rows.laid_ledger_field_one), ("ledger/field.powers", Rows.laid_ledger_field_powers)] [.data, .data, .data] true :=
  Program.laidByTextLater.sub seatTie1 ["ledger/ledgerref02.prime", "ledger/field.one", "ledger/field.powers"] (by kernel_rfl) (by kernel_rfl)
theorem fieldPows_row_tie : Rows.fieldPowsRow.laidByTextAt .later Tryd.pinned [.data, .data, .data] true :=
  OpenClaim.laidByTextAt_later rfl rfl tie4 noOwnUnsafe
theorem fieldKeeps_row_tie : Rows.fieldKeepsRow.laidByTextAt .later Tryd.pinned [.data, .data, .data] true :=
  OpenClaim.laidByTextAt_later rfl rfl tie4 noOwnUnsafe
theorem tie5 : Tryd.prog.laidByTextLater [("ledger/ledgerref02.prime", Rows.laid_ledger_ledgerref02_prime), ("ledger/field.one", Rows.laid_ledger_field_one), ("ledger/field.rootOfMinusOne", Rows.laid_ledger_field_rootOfMinusOne), ("ledger/field.powers", Rows.laid_ledger_field_powers)] [.data, .data, .data, .data] true :=
  Program.laidByTextLater.sub seatTie1 ["ledger/ledgerref02.prime", "ledger/field.one", "ledger/field.rootOfMinusOne", "ledger/field.powers"] (by kernel_rfl) (by kernel_rfl)
theorem fieldRatios_row_tie : Rows.fieldRatiosRow.laidByTextAt .later Tryd.pinned [.data, .data, .data, .data] true :=
  OpenClaim.laidByTextAt_later rfl rfl tie5 noOwnUnsafe
theorem fieldAll_row_tie : Rows.fieldAllRow.laidByTextAt .later Tryd.pinned [.data, .data, .data, .data] true :=
  OpenClaim.laidByTextAt_later rfl rfl tie5 noOwnUnsafe
theorem tie6 : Tryd.prog.laidByTextLater [("ledger/field.one", Rows.laid_ledger_field_one), ("ledger/field.rootOfMinusOne", Rows.laid_ledger_field_rootOfMinusOne), ("ledger/field.powers", Rows.laid_ledger_field_powers), ("ledger/point.one", Rows.laid_ledger_point_one), ("ledger/point.d", Rows.laid_ledger_point_d)] [.data, .data, .data, .data, .data] true :=
  Program.laidByTextLater.sub seatTie1 ["ledger/field.one", "ledger/field.rootOfMinusOne", "ledger/field.powers", "ledger/point.one", "ledger/point.d"] (by kernel_rfl) (by kernel_rfl)
theorem pointForms_row_tie : Rows.pointFormsRow.laidByTextAt .later Tryd.pinned [.data, .data, .data, .data, .data] true :=
  OpenClaim.laidByTextAt_later rfl rfl tie6 noOwnUnsafe
theorem fieldBatchesUpto_row_tie : Rows.fieldBatchesUptoRow.laidByTextAt .later Tryd.pinned [.data, .data] true :=
  OpenClaim.laidByTextAt_later rfl rfl tie noOwnUnsafe
theorem fieldRootsUpto_row_tie : Rows.fieldRootsUptoRow.laidByTextAt .later Tryd.pinned [.data, .data, .data] true :=
  OpenClaim.laidByTextAt_later rfl rfl tie2 noOwnUnsafe
theorem fieldProductsUpto_row_tie : Rows.fieldProductsUptoRow.laidByTextAt .later Tryd.pinned [.data] true :=
  OpenClaim.laidByTextAt_later rfl rfl tie3 noOwnUnsafe
theorem fieldPowsUpto_row_tie : Rows.fieldPowsUptoRow.laidByTextAt .later Tryd.pinned [.data, .data, .data] true :=
  OpenClaim.laidByTextAt_later rfl rfl tie4 noOwnUnsafe
theorem fieldKeepsUpto_row_tie : Rows.fieldKeepsUptoRow.laidByTextAt .later Tryd.pinned [.data, .data, .data] true :=
  OpenClaim.laidByTextAt_later rfl rfl tie4 noOwnUnsafe
theorem fieldRatiosUpto_row_tie : Rows.fieldRatiosUptoRow.laidByTextAt .later Tryd.pinned [.data, .data, .data, .data] true :=
  OpenClaim.laidByTextAt_later rfl rfl tie5 noOwnUnsafe
theorem fieldAllUpto_row_tie : Rows.fieldAllUptoRow.laidByTextAt .later Tryd.pinned [.data, .data, .data, .data] true :=
  OpenClaim.laidByTextAt_later rfl rfl tie5 noOwnUnsafe
theorem pointFormsUpto_row_tie : Rows.pointFormsUptoRow.laidByTextAt .later Tryd.pinned [.data, .data, .data, .data, .data] true :=
  OpenClaim.laidByTextAt_later rfl rfl tie6 noOwnUnsafe
end Go.Proofs.YtkegcilcapnpdaaDoor
