/-
  DERIVED. GIVEN WITH THE SEED: THE CARDS: each row of YtkaoalcffgnfeaaGreatDoorRows.lean that lists a variable, with what it lists TIED to the program's text (the seventh form; the later family's looks); each row that meets fmt, with fmt's text TOLD by the authors' own Lean function (tested against real Go, not proved from fmt's source: count such statements apart). THE CARD IS WHAT COUNTS. Prove the row's statement (the work); the ties are given (YtkaoalcffgnfeaaGreatDoorTie.lean); close each card by the builder's one call (the guide's Derived/Test/ToyasCard.lean, 'card_holds'). Laid BY PROGRAM, IN A SANDBOX (cutbox-door.mjs). By AI agents, Wed Nov 11 2026. No macro, syntax, notation, axiom, sorry.
-/
import Derived.Test.YtkaoalcffgnfeaaGreatDoorRows
import GoSem.ClaimSeven
namespace Go.Proofs.YtkaoalcffgnfeaaGreatDoor
namespace Rows

/-- THE TIED CARD OF 'ledgerlaw14.WebPrints'. -/
def webPrintsCard : Claim7 := { stood := { row := webPrintsRow, standIns := [], harness := (true, "c81eba342e8ec76437a5ee9e934eb1419a0d717d7682e39aff9f687216b57801"), looks := true }, kinds := [], alts := [], laidByText := true, laidKinds := [.data, .data, .data, .data, .data, .data, .data, .sentinel, .sentinel, .data, .data, .sentinel, .sentinel, .sentinel, .sentinel, .sentinel, .sentinel, .sentinel, .sentinel, .sentinel, .sentinel, .sentinel, .sentinel, .data, .pinned], laidTests := true, laidLooks := .later }
def WebPrintsCardSaid : Prop := Claim7.holds Tryz.pinned (.plain (OpenSpec.ofChange webPrintsSpec)) webPrintsCard

/-- THE TIED CARD OF 'ledgerlaw14.WebRequests'. -/
def webRequestsCard : Claim7 := { stood := { row := webRequestsRow, standIns := [], harness := (true, "c81eba342e8ec76437a5ee9e934eb1419a0d717d7682e39aff9f687216b57801"), looks := true }, kinds := [], alts := [], laidByText := true, laidKinds := [.data, .data, .data, .data, .data, .sentinel, .sentinel, .data, .sentinel, .sentinel, .sentinel, .sentinel, .sentinel, .sentinel, .sentinel, .sentinel, .sentinel, .sentinel, .sentinel, .sentinel, .data, .pinned], laidTests := true, laidLooks := .later }
def WebRequestsCardSaid : Prop := Claim7.holds Tryz.pinned (.plain (OpenSpec.ofChange webRequestsSpec)) webRequestsCard

/-- THE TIED CARD OF 'ledgerlaw14.WebResponses'. -/
def webResponsesCard : Claim7 := { stood := { row := webResponsesRow, standIns := [], harness := (true, "c81eba342e8ec76437a5ee9e934eb1419a0d717d7682e39aff9f687216b57801"), looks := true }, kinds := [], alts := [], laidByText := true, laidKinds := [.data, .data, .data, .data, .data, .sentinel, .sentinel, .data, .sentinel, .sentinel, .sentinel, .sentinel, .sentinel, .sentinel, .sentinel, .sentinel, .sentinel, .sentinel, .sentinel, .sentinel, .data, .pinned], laidTests := true, laidLooks := .later }
def WebResponsesCardSaid : Prop := Claim7.holds Tryz.pinned (.plain (OpenSpec.ofChange webResponsesSpec)) webResponsesCard

/-- THE SECOND FORM's CARD OF 'ledgerlaw14.WebPrints'. -/
def webPrintsUptoCard : Claim7 := { stood := { row := webPrintsUptoRow, standIns := [], harness := (true, "c81eba342e8ec76437a5ee9e934eb1419a0d717d7682e39aff9f687216b57801"), looks := true }, kinds := [], alts := [], laidByText := true, laidKinds := [.data, .data, .data, .data, .data, .data, .data, .sentinel, .sentinel, .data, .data, .sentinel, .sentinel, .sentinel, .sentinel, .sentinel, .sentinel, .sentinel, .sentinel, .sentinel, .sentinel, .sentinel, .sentinel, .data, .pinned], laidTests := true, laidLooks := .later }
def WebPrintsUptoCardSaid : Prop := Claim7.holds Tryz.pinned (.plain (OpenSpec.upto webPrintsSpec)) webPrintsUptoCard

/-- THE SECOND FORM's CARD OF 'ledgerlaw14.WebRequests'. -/
def webRequestsUptoCard : Claim7 := { stood := { row := webRequestsUptoRow, standIns := [], harness := (true, "c81eba342e8ec76437a5ee9e934eb1419a0d717d7682e39aff9f687216b57801"), looks := true }, kinds := [], alts := [], laidByText := true, laidKinds := [.data, .data, .data, .data, .data, .sentinel, .sentinel, .data, .sentinel, .sentinel, .sentinel, .sentinel, .sentinel, .sentinel, .sentinel, .sentinel, .sentinel, .sentinel, .sentinel, .sentinel, .data, .pinned], laidTests := true, laidLooks := .later }
def WebRequestsUptoCardSaid : Prop := Claim7.holds Tryz.pinned (.plain (OpenSpec.upto webRequestsSpec)) webRequestsUptoCard

/-- THE SECOND FORM's CARD OF 'ledgerlaw14.WebResponses'. -/
def webResponsesUptoCard : Claim7 := { stood := { row := webResponsesUptoRow, standIns := [], harness := (true, "c81eba342e8ec76437a5ee9e934eb1419a0d717d7682e39aff9f687216b57801"), looks := true }, kinds := [], alts := [], laidByText := true, laidKinds := [.data, .data, .data, .data, .data, .sentinel, .sentinel, .data, .sentinel, .sentinel, .sentinel, .sentinel, .sentinel, .sentinel, .sentinel, .sentinel, .sentinel, .sentinel, .sentinel, .sentinel, .data, .pinned], laidTests := true, laidLooks := .later }
def WebResponsesUptoCardSaid : Prop := Claim7.holds Tryz.pinned (.plain (OpenSpec.upto webResponsesSpec)) webResponsesUptoCard
end Rows
end Go.Proofs.YtkaoalcffgnfeaaGreatDoor
