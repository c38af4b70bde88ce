/-
  DERIVED. GIVEN WITH THE SEED: THE CARDS: each row of YtfnbodpbdfeiiaaDoorRows.lean that lists a variable, with what it lists TIED to the program's text (the seventh form; the later family's looks); each row that meets fmt, with fmt's text TOLD by the authors' own Lean function (tested against real Go, not proved from fmt's source: count such statements apart). THE CARD IS WHAT COUNTS. Prove the row's statement (the work); the ties are given (YtfnbodpbdfeiiaaDoorTie.lean); close each card by the builder's one call (the guide's Derived/Test/ToyasCard.lean, 'card_holds'). Laid BY PROGRAM, IN A SANDBOX (cutbox-door.mjs). By AI agents, Wed Nov 11 2026. No macro, syntax, notation, axiom, sorry.
-/
import Derived.Test.YtfnbodpbdfeiiaaDoorRows
import GoSem.ClaimSeven
namespace Go.Proofs.YtfnbodpbdfeiiaaDoor
namespace Rows

/-- THE TIED CARD OF 'ledgerlaw02.FieldPowers'. -/
def fieldPowersCard : Claim7 := { stood := { row := fieldPowersRow, standIns := [], harness := (true, "0a7566258907d2db312372fbc386c3bdf3e2e3b88ae3330614acfe3180f14fcb"), looks := false }, kinds := [], alts := [], laidByText := true, laidKinds := [.data], laidTests := true, laidLooks := .later }
def FieldPowersCardSaid : Prop := Claim7.holds Tryd.pinned (.plain (OpenSpec.ofChange fieldPowersSpec)) fieldPowersCard

/-- THE TIED CARD OF 'ledgerlaw02.FieldSymbols'. -/
def fieldSymbolsCard : Claim7 := { stood := { row := fieldSymbolsRow, standIns := [], harness := (true, "0a7566258907d2db312372fbc386c3bdf3e2e3b88ae3330614acfe3180f14fcb"), looks := false }, kinds := [], alts := [], laidByText := true, laidKinds := [.data, .data], laidTests := true, laidLooks := .later }
def FieldSymbolsCardSaid : Prop := Claim7.holds Tryd.pinned (.plain (OpenSpec.ofChange fieldSymbolsSpec)) fieldSymbolsCard

/-- THE TIED CARD OF 'ledgerlaw02.FieldBatches'. -/
def fieldBatchesCard : Claim7 := { stood := { row := fieldBatchesRow, standIns := [], harness := (true, "0a7566258907d2db312372fbc386c3bdf3e2e3b88ae3330614acfe3180f14fcb"), looks := false }, kinds := [], alts := [], laidByText := true, laidKinds := [.data, .data], laidTests := true, laidLooks := .later }
def FieldBatchesCardSaid : Prop := Claim7.holds Tryd.pinned (.plain (OpenSpec.ofChange fieldBatchesSpec)) fieldBatchesCard

/-- THE TIED CARD OF 'ledgerlaw02.FieldInverts'. -/
def fieldInvertsCard : Claim7 := { stood := { row := fieldInvertsRow, standIns := [], harness := (true, "0a7566258907d2db312372fbc386c3bdf3e2e3b88ae3330614acfe3180f14fcb"), looks := false }, kinds := [], alts := [], laidByText := true, laidKinds := [.data], laidTests := true, laidLooks := .later }
def FieldInvertsCardSaid : Prop := Claim7.holds Tryd.pinned (.plain (OpenSpec.ofChange fieldInvertsSpec)) fieldInvertsCard

/-- THE TIED CARD OF 'ledgerlaw02.FieldFermat'. -/
def fieldFermatCard : Claim7 := { stood := { row := fieldFermatRow, standIns := [], harness := (true, "0a7566258907d2db312372fbc386c3bdf3e2e3b88ae3330614acfe3180f14fcb"), looks := false }, kinds := [], alts := [], laidByText := true, laidKinds := [.data, .data], laidTests := true, laidLooks := .later }
def FieldFermatCardSaid : Prop := Claim7.holds Tryd.pinned (.plain (OpenSpec.ofChange fieldFermatSpec)) fieldFermatCard

/-- THE TIED CARD OF 'ledgerlaw02.FieldRoots'. -/
def fieldRootsCard : Claim7 := { stood := { row := fieldRootsRow, standIns := [], harness := (true, "0a7566258907d2db312372fbc386c3bdf3e2e3b88ae3330614acfe3180f14fcb"), looks := false }, kinds := [], alts := [], laidByText := true, laidKinds := [.data, .data, .data], laidTests := true, laidLooks := .later }
def FieldRootsCardSaid : Prop := Claim7.holds Tryd.pinned (.plain (OpenSpec.ofChange fieldRootsSpec)) fieldRootsCard

/-- THE SECOND FORM's CARD OF 'ledgerlaw02.FieldPowers'. -/
def fieldPowersUptoCard : Claim7 := { stood := { row := fieldPowersUptoRow, standIns := [], harness := (true, "0a7566258907d2db312372fbc386c3bdf3e2e3b88ae3330614acfe3180f14fcb"), looks := false }, kinds := [], alts := [], laidByText := true, laidKinds := [.data], laidTests := true, laidLooks := .later }
def FieldPowersUptoCardSaid : Prop := Claim7.holds Tryd.pinned (.plain (OpenSpec.upto fieldPowersSpec)) fieldPowersUptoCard

/-- THE SECOND FORM's CARD OF 'ledgerlaw02.FieldSymbols'. -/
def fieldSymbolsUptoCard : Claim7 := { stood := { row := fieldSymbolsUptoRow, standIns := [], harness := (true, "0a7566258907d2db312372fbc386c3bdf3e2e3b88ae3330614acfe3180f14fcb"), looks := false }, kinds := [], alts := [], laidByText := true, laidKinds := [.data, .data], laidTests := true, laidLooks := .later }
def FieldSymbolsUptoCardSaid : Prop := Claim7.holds Tryd.pinned (.plain (OpenSpec.upto fieldSymbolsSpec)) fieldSymbolsUptoCard

/-- THE SECOND FORM's CARD OF 'ledgerlaw02.FieldBatches'. -/
def fieldBatchesUptoCard : Claim7 := { stood := { row := fieldBatchesUptoRow, standIns := [], harness := (true, "0a7566258907d2db312372fbc386c3bdf3e2e3b88ae3330614acfe3180f14fcb"), looks := false }, kinds := [], alts := [], laidByText := true, laidKinds := [.data, .data], laidTests := true, laidLooks := .later }
def FieldBatchesUptoCardSaid : Prop := Claim7.holds Tryd.pinned (.plain (OpenSpec.upto fieldBatchesSpec)) fieldBatchesUptoCard

/-- THE SECOND FORM's CARD OF 'ledgerlaw02.FieldInverts'. -/
def fieldInvertsUptoCard : Claim7 := { stood := { row := fieldInvertsUptoRow, standIns := [], harness := (true, "0a7566258907d2db312372fbc386c3bdf3e2e3b88ae3330614acfe3180f14fcb"), looks := false }, kinds := [], alts := [], laidByText := true, laidKinds := [.data], laidTests := true, laidLooks := .later }
def FieldInvertsUptoCardSaid : Prop := Claim7.holds Tryd.pinned (.plain (OpenSpec.upto fieldInvertsSpec)) fieldInvertsUptoCard

/-- THE SECOND FORM's CARD OF 'ledgerlaw02.FieldFermat'. -/
def fieldFermatUptoCard : Claim7 := { stood := { row := fieldFermatUptoRow, standIns := [], harness := (true, "0a7566258907d2db312372fbc386c3bdf3e2e3b88ae3330614acfe3180f14fcb"), looks := false }, kinds := [], alts := [], laidByText := true, laidKinds := [.data, .data], laidTests := true, laidLooks := .later }
def FieldFermatUptoCardSaid : Prop := Claim7.holds Tryd.pinned (.plain (OpenSpec.upto fieldFermatSpec)) fieldFermatUptoCard

/-- THE SECOND FORM's CARD OF 'ledgerlaw02.FieldRoots'. -/
def fieldRootsUptoCard : Claim7 := { stood := { row := fieldRootsUptoRow, standIns := [], harness := (true, "0a7566258907d2db312372fbc386c3bdf3e2e3b88ae3330614acfe3180f14fcb"), looks := false }, kinds := [], alts := [], laidByText := true, laidKinds := [.data, .data, .data], laidTests := true, laidLooks := .later }
def FieldRootsUptoCardSaid : Prop := Claim7.holds Tryd.pinned (.plain (OpenSpec.upto fieldRootsSpec)) fieldRootsUptoCard
end Rows
end Go.Proofs.YtfnbodpbdfeiiaaDoor
