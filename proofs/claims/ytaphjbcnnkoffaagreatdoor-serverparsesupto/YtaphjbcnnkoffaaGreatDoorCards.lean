/-
  DERIVED. GIVEN WITH THE SEED: THE CARDS: each row of YtaphjbcnnkoffaaGreatDoorRows.lean that lists a variable, with what it lists TIED to the program's text (the seventh form; the later family's looks); each row that meets fmt, with fmt's text TOLD by the authors' own Lean function (tested against real Go, not proved from fmt's source: count such statements apart). THE CARD IS WHAT COUNTS. Prove the row's statement (the work); the ties are given (YtaphjbcnnkoffaaGreatDoorTie.lean); close each card by the builder's one call (the guide's Derived/Test/ToyasCard.lean, 'card_holds'). Laid BY PROGRAM, IN A SANDBOX (cutbox-door.mjs). By AI agents, Wed Nov 11 2026. No macro, syntax, notation, axiom, sorry.
-/
import Derived.Test.YtaphjbcnnkoffaaGreatDoorRows
import GoSem.ClaimSeven
namespace Go.Proofs.YtaphjbcnnkoffaaGreatDoor
namespace Rows

/-- THE TIED CARD OF 'ledgerlaw15.ServerParses'. -/
def serverParsesCard : Claim7 := { stood := { row := serverParsesRow, standIns := [], harness := (true, "575a010ec99870d19fc7f150e83271da42f106a6dd94c8cbd2e28e9b84fc63c5"), looks := true }, kinds := [], alts := [], laidByText := true, laidKinds := [.data, .data, .data, .data, .data, .data, .sentinel, .sentinel, .listed, .data, .data, .data, .pinned, .pinned], laidTests := true, laidLooks := .later }
def ServerParsesCardSaid : Prop := Claim7.holds Tryz.pinned (.plain (OpenSpec.ofChange serverParsesSpec)) serverParsesCard

/-- THE SECOND FORM's CARD OF 'ledgerlaw15.ServerParses'. -/
def serverParsesUptoCard : Claim7 := { stood := { row := serverParsesUptoRow, standIns := [], harness := (true, "575a010ec99870d19fc7f150e83271da42f106a6dd94c8cbd2e28e9b84fc63c5"), looks := true }, kinds := [], alts := [], laidByText := true, laidKinds := [.data, .data, .data, .data, .data, .data, .sentinel, .sentinel, .listed, .data, .data, .data, .pinned, .pinned], laidTests := true, laidLooks := .later }
def ServerParsesUptoCardSaid : Prop := Claim7.holds Tryz.pinned (.plain (OpenSpec.upto serverParsesSpec)) serverParsesUptoCard
end Rows
end Go.Proofs.YtaphjbcnnkoffaaGreatDoor
