/-
  DERIVED. GIVEN WITH THE SEED: THE CARDS: each row of YtehnnlhoajdcaaaGreatDoorRows.lean that lists a variable, with what it lists TIED to the program's text (the seventh form; the later family's looks); each row that meets fmt, with fmt's text TOLD by the authors' own Lean function (tested against real Go, not proved from fmt's source: count such statements apart). THE CARD IS WHAT COUNTS. Prove the row's statement (the work); the ties are given (YtehnnlhoajdcaaaGreatDoorTie.lean); close each card by the builder's one call (the guide's Derived/Test/ToyasCard.lean, 'card_holds'). Laid BY PROGRAM, IN A SANDBOX (cutbox-door.mjs). By AI agents, Wed Nov 11 2026. No macro, syntax, notation, axiom, sorry.
-/
import Derived.Test.YtehnnlhoajdcaaaGreatDoorRows
import GoSem.ClaimSeven
namespace Go.Proofs.YtehnnlhoajdcaaaGreatDoor
namespace Rows

/-- THE TIED CARD OF 'ledgerlaw14.WebRequests'. -/
def webRequestsCard : Claim7 := { stood := { row := webRequestsRow, standIns := [], harness := (true, "7ef91a3f7600396b3c1e3d86e4710eeb159706905e031b1c716c5478f2f5934c"), looks := true }, kinds := [], alts := [], laidByText := true, laidKinds := [.data, .data, .data, .data, .data, .sentinel, .sentinel, .data, .sentinel, .sentinel, .sentinel, .sentinel, .sentinel, .sentinel, .sentinel, .sentinel, .sentinel, .sentinel, .sentinel, .sentinel, .data, .pinned], laidTests := true, laidLooks := .later }
def WebRequestsCardSaid : Prop := Claim7.holds Tryz.pinned (.plain (OpenSpec.ofChange webRequestsSpec)) webRequestsCard

/-- THE TIED CARD OF 'ledgerlaw14.WebResponses'. -/
def webResponsesCard : Claim7 := { stood := { row := webResponsesRow, standIns := [], harness := (true, "7ef91a3f7600396b3c1e3d86e4710eeb159706905e031b1c716c5478f2f5934c"), looks := true }, kinds := [], alts := [], laidByText := true, laidKinds := [.data, .data, .data, .data, .data, .sentinel, .sentinel, .data, .sentinel, .sentinel, .sentinel, .sentinel, .sentinel, .sentinel, .sentinel, .sentinel, .sentinel, .sentinel, .sentinel, .sentinel, .data, .pinned], laidTests := true, laidLooks := .later }
def WebResponsesCardSaid : Prop := Claim7.holds Tryz.pinned (.plain (OpenSpec.ofChange webResponsesSpec)) webResponsesCard

/-- THE TIED CARD OF 'ledgerlaw14.WebKeeps'. -/
def webKeepsCard : Claim7 := { stood := { row := webKeepsRow, standIns := [], harness := (true, "7ef91a3f7600396b3c1e3d86e4710eeb159706905e031b1c716c5478f2f5934c"), looks := true }, kinds := [], alts := [], laidByText := true, laidKinds := [.data, .data, .data, .data, .data, .data, .data, .sentinel, .sentinel, .data, .data, .sentinel, .sentinel, .sentinel, .sentinel, .sentinel, .sentinel, .sentinel, .sentinel, .sentinel, .sentinel, .sentinel, .sentinel, .data, .pinned], laidTests := true, laidLooks := .later }
def WebKeepsCardSaid : Prop := Claim7.holds Tryz.pinned (.plain (OpenSpec.ofChange webKeepsSpec)) webKeepsCard

/-- THE TIED CARD OF 'ledgerlaw14.WebAll'. -/
def webAllCard : Claim7 := { stood := { row := webAllRow, standIns := [], harness := (true, "7ef91a3f7600396b3c1e3d86e4710eeb159706905e031b1c716c5478f2f5934c"), looks := true }, kinds := [], alts := [], laidByText := true, laidKinds := [.data, .data, .data, .data, .data, .data, .data, .sentinel, .sentinel, .data, .data, .sentinel, .sentinel, .sentinel, .sentinel, .sentinel, .sentinel, .sentinel, .sentinel, .sentinel, .sentinel, .sentinel, .sentinel, .data, .pinned], laidTests := true, laidLooks := .later }
def WebAllCardSaid : Prop := Claim7.holds Tryz.pinned (.plain (OpenSpec.ofChange webAllSpec)) webAllCard

/-- THE SECOND FORM's CARD OF 'ledgerlaw14.WebRequests'. -/
def webRequestsUptoCard : Claim7 := { stood := { row := webRequestsUptoRow, standIns := [], harness := (true, "7ef91a3f7600396b3c1e3d86e4710eeb159706905e031b1c716c5478f2f5934c"), looks := true }, kinds := [], alts := [], laidByText := true, laidKinds := [.data, .data, .data, .data, .data, .sentinel, .sentinel, .data, .sentinel, .sentinel, .sentinel, .sentinel, .sentinel, .sentinel, .sentinel, .sentinel, .sentinel, .sentinel, .sentinel, .sentinel, .data, .pinned], laidTests := true, laidLooks := .later }
def WebRequestsUptoCardSaid : Prop := Claim7.holds Tryz.pinned (.plain (OpenSpec.upto webRequestsSpec)) webRequestsUptoCard

/-- THE SECOND FORM's CARD OF 'ledgerlaw14.WebResponses'. -/
def webResponsesUptoCard : Claim7 := { stood := { row := webResponsesUptoRow, standIns := [], harness := (true, "7ef91a3f7600396b3c1e3d86e4710eeb159706905e031b1c716c5478f2f5934c"), looks := true }, kinds := [], alts := [], laidByText := true, laidKinds := [.data, .data, .data, .data, .data, .sentinel, .sentinel, .data, .sentinel, .sentinel, .sentinel, .sentinel, .sentinel, .sentinel, .sentinel, .sentinel, .sentinel, .sentinel, .sentinel, .sentinel, .data, .pinned], laidTests := true, laidLooks := .later }
def WebResponsesUptoCardSaid : Prop := Claim7.holds Tryz.pinned (.plain (OpenSpec.upto webResponsesSpec)) webResponsesUptoCard

/-- THE SECOND FORM's CARD OF 'ledgerlaw14.WebKeeps'. -/
def webKeepsUptoCard : Claim7 := { stood := { row := webKeepsUptoRow, standIns := [], harness := (true, "7ef91a3f7600396b3c1e3d86e4710eeb159706905e031b1c716c5478f2f5934c"), looks := true }, kinds := [], alts := [], laidByText := true, laidKinds := [.data, .data, .data, .data, .data, .data, .data, .sentinel, .sentinel, .data, .data, .sentinel, .sentinel, .sentinel, .sentinel, .sentinel, .sentinel, .sentinel, .sentinel, .sentinel, .sentinel, .sentinel, .sentinel, .data, .pinned], laidTests := true, laidLooks := .later }
def WebKeepsUptoCardSaid : Prop := Claim7.holds Tryz.pinned (.plain (OpenSpec.upto webKeepsSpec)) webKeepsUptoCard

/-- THE SECOND FORM's CARD OF 'ledgerlaw14.WebAll'. -/
def webAllUptoCard : Claim7 := { stood := { row := webAllUptoRow, standIns := [], harness := (true, "7ef91a3f7600396b3c1e3d86e4710eeb159706905e031b1c716c5478f2f5934c"), looks := true }, kinds := [], alts := [], laidByText := true, laidKinds := [.data, .data, .data, .data, .data, .data, .data, .sentinel, .sentinel, .data, .data, .sentinel, .sentinel, .sentinel, .sentinel, .sentinel, .sentinel, .sentinel, .sentinel, .sentinel, .sentinel, .sentinel, .sentinel, .data, .pinned], laidTests := true, laidLooks := .later }
def WebAllUptoCardSaid : Prop := Claim7.holds Tryz.pinned (.plain (OpenSpec.upto webAllSpec)) webAllUptoCard
end Rows
end Go.Proofs.YtehnnlhoajdcaaaGreatDoor
