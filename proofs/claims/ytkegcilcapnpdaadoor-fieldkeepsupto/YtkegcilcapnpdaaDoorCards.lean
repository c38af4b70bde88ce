/-
  DERIVED. GIVEN WITH THE SEED: THE CARDS: each row of YtkegcilcapnpdaaDoorRows.lean that lists a variable, with what it lists TIED to the program's text (the seventh form; the later family's looks); each row that meets fmt, with fmt's text TOLD by the authors' own Lean function (tested against real Go, not proved from fmt's source: count such statements apart). THE CARD IS WHAT COUNTS. Prove the row's statement (the work); the ties are given (YtkegcilcapnpdaaDoorTie.lean); close each card by the builder's one call (the guide's Derived/Test/ToyasCard.lean, 'card_holds'). Laid BY PROGRAM, IN A SANDBOX (cutbox-door.mjs). By AI agents, Wed Nov 11 2026. No macro, syntax, notation, axiom, sorry.
-/
import Derived.Test.YtkegcilcapnpdaaDoorRows
import GoSem.ClaimSeven
namespace Go.Proofs.YtkegcilcapnpdaaDoor
namespace Rows

/-- THE TIED CARD OF 'ledgerlaw02.FieldBatches'. -/
def fieldBatchesCard : Claim7 := { stood := { row := fieldBatchesRow, standIns := [], harness := (true, "a3b6baf1eb79b56a7070539df219bd2e5a9ce0fe87b849959d961a7e13b62210"), looks := false }, kinds := [], alts := [], laidByText := true, laidKinds := [.data, .data], laidTests := true, laidLooks := .later }
def FieldBatchesCardSaid : Prop := Claim7.holds Tryd.pinned (.plain (OpenSpec.ofChange fieldBatchesSpec)) fieldBatchesCard

/-- THE TIED CARD OF 'ledgerlaw02.FieldRoots'. -/
def fieldRootsCard : Claim7 := { stood := { row := fieldRootsRow, standIns := [], harness := (true, "a3b6baf1eb79b56a7070539df219bd2e5a9ce0fe87b849959d961a7e13b62210"), looks := false }, kinds := [], alts := [], laidByText := true, laidKinds := [.data, .data, .data], laidTests := true, laidLooks := .later }
def FieldRootsCardSaid : Prop := Claim7.holds Tryd.pinned (.plain (OpenSpec.ofChange fieldRootsSpec)) fieldRootsCard

/-- THE TIED CARD OF 'ledgerlaw02.FieldProducts'. -/
def fieldProductsCard : Claim7 := { stood := { row := fieldProductsRow, standIns := [], harness := (true, "a3b6baf1eb79b56a7070539df219bd2e5a9ce0fe87b849959d961a7e13b62210"), looks := false }, kinds := [], alts := [], laidByText := true, laidKinds := [.data], laidTests := true, laidLooks := .later }
def FieldProductsCardSaid : Prop := Claim7.holds Tryd.pinned (.plain (OpenSpec.ofChange fieldProductsSpec)) fieldProductsCard

/-- THE TIED CARD OF 'ledgerlaw02.FieldPows'. -/
def fieldPowsCard : Claim7 := { stood := { row := fieldPowsRow, standIns := [], harness := (true, "a3b6baf1eb79b56a7070539df219bd2e5a9ce0fe87b849959d961a7e13b62210"), looks := false }, kinds := [], alts := [], laidByText := true, laidKinds := [.data, .data, .data], laidTests := true, laidLooks := .later }
def FieldPowsCardSaid : Prop := Claim7.holds Tryd.pinned (.plain (OpenSpec.ofChange fieldPowsSpec)) fieldPowsCard

/-- THE TIED CARD OF 'ledgerlaw02.FieldKeeps'. -/
def fieldKeepsCard : Claim7 := { stood := { row := fieldKeepsRow, standIns := [], harness := (true, "a3b6baf1eb79b56a7070539df219bd2e5a9ce0fe87b849959d961a7e13b62210"), looks := false }, kinds := [], alts := [], laidByText := true, laidKinds := [.data, .data, .data], laidTests := true, laidLooks := .later }
def FieldKeepsCardSaid : Prop := Claim7.holds Tryd.pinned (.plain (OpenSpec.ofChange fieldKeepsSpec)) fieldKeepsCard

/-- THE TIED CARD OF 'ledgerlaw02.FieldRatios'. -/
def fieldRatiosCard : Claim7 := { stood := { row := fieldRatiosRow, standIns := [], harness := (true, "a3b6baf1eb79b56a7070539df219bd2e5a9ce0fe87b849959d961a7e13b62210"), looks := false }, kinds := [], alts := [], laidByText := true, laidKinds := [.data, .data, .data, .data], laidTests := true, laidLooks := .later }
def FieldRatiosCardSaid : Prop := Claim7.holds Tryd.pinned (.plain (OpenSpec.ofChange fieldRatiosSpec)) fieldRatiosCard

/-- THE TIED CARD OF 'ledgerlaw02.FieldAll'. -/
def fieldAllCard : Claim7 := { stood := { row := fieldAllRow, standIns := [], harness := (true, "a3b6baf1eb79b56a7070539df219bd2e5a9ce0fe87b849959d961a7e13b62210"), looks := false }, kinds := [], alts := [], laidByText := true, laidKinds := [.data, .data, .data, .data], laidTests := true, laidLooks := .later }
def FieldAllCardSaid : Prop := Claim7.holds Tryd.pinned (.plain (OpenSpec.ofChange fieldAllSpec)) fieldAllCard

/-- THE TIED CARD OF 'ledgerlaw04.PointForms'. -/
def pointFormsCard : Claim7 := { stood := { row := pointFormsRow, standIns := [], harness := (true, "a3b6baf1eb79b56a7070539df219bd2e5a9ce0fe87b849959d961a7e13b62210"), looks := false }, kinds := [], alts := [], laidByText := true, laidKinds := [.data, .data, .data, .data, .data], laidTests := true, laidLooks := .later }
def PointFormsCardSaid : Prop := Claim7.holds Tryd.pinned (.plain (OpenSpec.ofChange pointFormsSpec)) pointFormsCard

/-- THE SECOND FORM's CARD OF 'ledgerlaw02.FieldBatches'. -/
def fieldBatchesUptoCard : Claim7 := { stood := { row := fieldBatchesUptoRow, standIns := [], harness := (true, "a3b6baf1eb79b56a7070539df219bd2e5a9ce0fe87b849959d961a7e13b62210"), looks := false }, kinds := [], alts := [], laidByText := true, laidKinds := [.data, .data], laidTests := true, laidLooks := .later }
def FieldBatchesUptoCardSaid : Prop := Claim7.holds Tryd.pinned (.plain (OpenSpec.upto fieldBatchesSpec)) fieldBatchesUptoCard

/-- THE SECOND FORM's CARD OF 'ledgerlaw02.FieldRoots'. -/
def fieldRootsUptoCard : Claim7 := { stood := { row := fieldRootsUptoRow, standIns := [], harness := (true, "a3b6baf1eb79b56a7070539df219bd2e5a9ce0fe87b849959d961a7e13b62210"), looks := false }, kinds := [], alts := [], laidByText := true, laidKinds := [.data, .data, .data], laidTests := true, laidLooks := .later }
def FieldRootsUptoCardSaid : Prop := Claim7.holds Tryd.pinned (.plain (OpenSpec.upto fieldRootsSpec)) fieldRootsUptoCard

/-- THE SECOND FORM's CARD OF 'ledgerlaw02.FieldProducts'. -/
def fieldProductsUptoCard : Claim7 := { stood := { row := fieldProductsUptoRow, standIns := [], harness := (true, "a3b6baf1eb79b56a7070539df219bd2e5a9ce0fe87b849959d961a7e13b62210"), looks := false }, kinds := [], alts := [], laidByText := true, laidKinds := [.data], laidTests := true, laidLooks := .later }
def FieldProductsUptoCardSaid : Prop := Claim7.holds Tryd.pinned (.plain (OpenSpec.upto fieldProductsSpec)) fieldProductsUptoCard

/-- THE SECOND FORM's CARD OF 'ledgerlaw02.FieldPows'. -/
def fieldPowsUptoCard : Claim7 := { stood := { row := fieldPowsUptoRow, standIns := [], harness := (true, "a3b6baf1eb79b56a7070539df219bd2e5a9ce0fe87b849959d961a7e13b62210"), looks := false }, kinds := [], alts := [], laidByText := true, laidKinds := [.data, .data, .data], laidTests := true, laidLooks := .later }
def FieldPowsUptoCardSaid : Prop := Claim7.holds Tryd.pinned (.plain (OpenSpec.upto fieldPowsSpec)) fieldPowsUptoCard

/-- THE SECOND FORM's CARD OF 'ledgerlaw02.FieldKeeps'. -/
def fieldKeepsUptoCard : Claim7 := { stood := { row := fieldKeepsUptoRow, standIns := [], harness := (true, "a3b6baf1eb79b56a7070539df219bd2e5a9ce0fe87b849959d961a7e13b62210"), looks := false }, kinds := [], alts := [], laidByText := true, laidKinds := [.data, .data, .data], laidTests := true, laidLooks := .later }
def FieldKeepsUptoCardSaid : Prop := Claim7.holds Tryd.pinned (.plain (OpenSpec.upto fieldKeepsSpec)) fieldKeepsUptoCard

/-- THE SECOND FORM's CARD OF 'ledgerlaw02.FieldRatios'. -/
def fieldRatiosUptoCard : Claim7 := { stood := { row := fieldRatiosUptoRow, standIns := [], harness := (true, "a3b6baf1eb79b56a7070539df219bd2e5a9ce0fe87b849959d961a7e13b62210"), looks := false }, kinds := [], alts := [], laidByText := true, laidKinds := [.data, .data, .data, .data], laidTests := true, laidLooks := .later }
def FieldRatiosUptoCardSaid : Prop := Claim7.holds Tryd.pinned (.plain (OpenSpec.upto fieldRatiosSpec)) fieldRatiosUptoCard

/-- THE SECOND FORM's CARD OF 'ledgerlaw02.FieldAll'. -/
def fieldAllUptoCard : Claim7 := { stood := { row := fieldAllUptoRow, standIns := [], harness := (true, "a3b6baf1eb79b56a7070539df219bd2e5a9ce0fe87b849959d961a7e13b62210"), looks := false }, kinds := [], alts := [], laidByText := true, laidKinds := [.data, .data, .data, .data], laidTests := true, laidLooks := .later }
def FieldAllUptoCardSaid : Prop := Claim7.holds Tryd.pinned (.plain (OpenSpec.upto fieldAllSpec)) fieldAllUptoCard

/-- THE SECOND FORM's CARD OF 'ledgerlaw04.PointForms'. -/
def pointFormsUptoCard : Claim7 := { stood := { row := pointFormsUptoRow, standIns := [], harness := (true, "a3b6baf1eb79b56a7070539df219bd2e5a9ce0fe87b849959d961a7e13b62210"), looks := false }, kinds := [], alts := [], laidByText := true, laidKinds := [.data, .data, .data, .data, .data], laidTests := true, laidLooks := .later }
def PointFormsUptoCardSaid : Prop := Claim7.holds Tryd.pinned (.plain (OpenSpec.upto pointFormsSpec)) pointFormsUptoCard
end Rows
end Go.Proofs.YtkegcilcapnpdaaDoor
