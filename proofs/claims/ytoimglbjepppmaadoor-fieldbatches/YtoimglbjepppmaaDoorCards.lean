/-
  DERIVED. GIVEN WITH THE SEED: THE CARDS: each row of YtoimglbjepppmaaDoorRows.lean that lists a variable, with what it lists TIED to the program's text (the seventh form; the later family's looks); each row that meets fmt, with fmt's text TOLD by the authors' own Lean function (tested against real Go, not proved from fmt's source: count such statements apart). THE CARD IS WHAT COUNTS. Prove the row's statement (the work); the ties are given (YtoimglbjepppmaaDoorTie.lean); close each card by the builder's one call (the guide's Derived/Test/ToyasCard.lean, 'card_holds'). Laid BY PROGRAM, IN A SANDBOX (cutbox-door.mjs). By AI agents, Wed Nov 11 2026. No macro, syntax, notation, axiom, sorry.
-/
import Derived.Test.YtoimglbjepppmaaDoorRows
import GoSem.ClaimSeven
namespace Go.Proofs.YtoimglbjepppmaaDoor
namespace Rows

/-- THE TIED CARD OF 'ledgerlaw02.FieldBatches'. -/
def fieldBatchesCard : Claim7 := { stood := { row := fieldBatchesRow, standIns := [], harness := (true, "2a2c9e0efe427c4498f17cc9c41a80d6b0f6855c591c4f7617e45844a4233cc9"), looks := false }, kinds := [], alts := [], laidByText := true, laidKinds := [.data, .data], laidTests := true, laidLooks := .later }
def FieldBatchesCardSaid : Prop := Claim7.holds Tryd.pinned (.plain (OpenSpec.ofChange fieldBatchesSpec)) fieldBatchesCard

/-- THE TIED CARD OF 'ledgerlaw02.FieldRoots'. -/
def fieldRootsCard : Claim7 := { stood := { row := fieldRootsRow, standIns := [], harness := (true, "2a2c9e0efe427c4498f17cc9c41a80d6b0f6855c591c4f7617e45844a4233cc9"), looks := false }, kinds := [], alts := [], laidByText := true, laidKinds := [.data, .data, .data], laidTests := true, laidLooks := .later }
def FieldRootsCardSaid : Prop := Claim7.holds Tryd.pinned (.plain (OpenSpec.ofChange fieldRootsSpec)) fieldRootsCard

/-- THE TIED CARD OF 'ledgerlaw04.PointFirst'. -/
def pointFirstCard : Claim7 := { stood := { row := pointFirstRow, standIns := [], harness := (true, "2a2c9e0efe427c4498f17cc9c41a80d6b0f6855c591c4f7617e45844a4233cc9"), looks := false }, kinds := [], alts := [], laidByText := true, laidKinds := [.data], laidTests := true, laidLooks := .later }
def PointFirstCardSaid : Prop := Claim7.holds Tryd.pinned (.plain (OpenSpec.ofChange pointFirstSpec)) pointFirstCard

/-- THE TIED CARD OF 'ledgerlaw04.PointForms'. -/
def pointFormsCard : Claim7 := { stood := { row := pointFormsRow, standIns := [], harness := (true, "2a2c9e0efe427c4498f17cc9c41a80d6b0f6855c591c4f7617e45844a4233cc9"), looks := false }, kinds := [], alts := [], laidByText := true, laidKinds := [.data, .data, .data, .data, .data], laidTests := true, laidLooks := .later }
def PointFormsCardSaid : Prop := Claim7.holds Tryd.pinned (.plain (OpenSpec.ofChange pointFormsSpec)) pointFormsCard

/-- THE TIED CARD OF 'ledgerlaw04.PointDecodes'. -/
def pointDecodesCard : Claim7 := { stood := { row := pointDecodesRow, standIns := [], harness := (true, "2a2c9e0efe427c4498f17cc9c41a80d6b0f6855c591c4f7617e45844a4233cc9"), looks := false }, kinds := [], alts := [], laidByText := true, laidKinds := [.data, .data, .data, .data, .data], laidTests := true, laidLooks := .later }
def PointDecodesCardSaid : Prop := Claim7.holds Tryd.pinned (.plain (OpenSpec.ofChange pointDecodesSpec)) pointDecodesCard

/-- THE TIED CARD OF 'ledgerlaw04.PointPairs'. -/
def pointPairsCard : Claim7 := { stood := { row := pointPairsRow, standIns := [], harness := (true, "2a2c9e0efe427c4498f17cc9c41a80d6b0f6855c591c4f7617e45844a4233cc9"), looks := false }, kinds := [], alts := [], laidByText := true, laidKinds := [.data, .data, .data, .data], laidTests := true, laidLooks := .later }
def PointPairsCardSaid : Prop := Claim7.holds Tryd.pinned (.plain (OpenSpec.ofChange pointPairsSpec)) pointPairsCard

/-- THE SECOND FORM's CARD OF 'ledgerlaw02.FieldBatches'. -/
def fieldBatchesUptoCard : Claim7 := { stood := { row := fieldBatchesUptoRow, standIns := [], harness := (true, "2a2c9e0efe427c4498f17cc9c41a80d6b0f6855c591c4f7617e45844a4233cc9"), looks := false }, kinds := [], alts := [], laidByText := true, laidKinds := [.data, .data], laidTests := true, laidLooks := .later }
def FieldBatchesUptoCardSaid : Prop := Claim7.holds Tryd.pinned (.plain (OpenSpec.upto fieldBatchesSpec)) fieldBatchesUptoCard

/-- THE SECOND FORM's CARD OF 'ledgerlaw02.FieldRoots'. -/
def fieldRootsUptoCard : Claim7 := { stood := { row := fieldRootsUptoRow, standIns := [], harness := (true, "2a2c9e0efe427c4498f17cc9c41a80d6b0f6855c591c4f7617e45844a4233cc9"), looks := false }, kinds := [], alts := [], laidByText := true, laidKinds := [.data, .data, .data], laidTests := true, laidLooks := .later }
def FieldRootsUptoCardSaid : Prop := Claim7.holds Tryd.pinned (.plain (OpenSpec.upto fieldRootsSpec)) fieldRootsUptoCard

/-- THE SECOND FORM's CARD OF 'ledgerlaw04.PointFirst'. -/
def pointFirstUptoCard : Claim7 := { stood := { row := pointFirstUptoRow, standIns := [], harness := (true, "2a2c9e0efe427c4498f17cc9c41a80d6b0f6855c591c4f7617e45844a4233cc9"), looks := false }, kinds := [], alts := [], laidByText := true, laidKinds := [.data], laidTests := true, laidLooks := .later }
def PointFirstUptoCardSaid : Prop := Claim7.holds Tryd.pinned (.plain (OpenSpec.upto pointFirstSpec)) pointFirstUptoCard

/-- THE SECOND FORM's CARD OF 'ledgerlaw04.PointForms'. -/
def pointFormsUptoCard : Claim7 := { stood := { row := pointFormsUptoRow, standIns := [], harness := (true, "2a2c9e0efe427c4498f17cc9c41a80d6b0f6855c591c4f7617e45844a4233cc9"), looks := false }, kinds := [], alts := [], laidByText := true, laidKinds := [.data, .data, .data, .data, .data], laidTests := true, laidLooks := .later }
def PointFormsUptoCardSaid : Prop := Claim7.holds Tryd.pinned (.plain (OpenSpec.upto pointFormsSpec)) pointFormsUptoCard

/-- THE SECOND FORM's CARD OF 'ledgerlaw04.PointDecodes'. -/
def pointDecodesUptoCard : Claim7 := { stood := { row := pointDecodesUptoRow, standIns := [], harness := (true, "2a2c9e0efe427c4498f17cc9c41a80d6b0f6855c591c4f7617e45844a4233cc9"), looks := false }, kinds := [], alts := [], laidByText := true, laidKinds := [.data, .data, .data, .data, .data], laidTests := true, laidLooks := .later }
def PointDecodesUptoCardSaid : Prop := Claim7.holds Tryd.pinned (.plain (OpenSpec.upto pointDecodesSpec)) pointDecodesUptoCard

/-- THE SECOND FORM's CARD OF 'ledgerlaw04.PointPairs'. -/
def pointPairsUptoCard : Claim7 := { stood := { row := pointPairsUptoRow, standIns := [], harness := (true, "2a2c9e0efe427c4498f17cc9c41a80d6b0f6855c591c4f7617e45844a4233cc9"), looks := false }, kinds := [], alts := [], laidByText := true, laidKinds := [.data, .data, .data, .data], laidTests := true, laidLooks := .later }
def PointPairsUptoCardSaid : Prop := Claim7.holds Tryd.pinned (.plain (OpenSpec.upto pointPairsSpec)) pointPairsUptoCard
end Rows
end Go.Proofs.YtoimglbjepppmaaDoor
