/-
  DERIVED. GIVEN WITH THE SEED: THE CARDS: each row of YtbgjnghjddcooaaGreatDoorRows.lean that lists a variable, with what it lists TIED to the program's text (the seventh form; the later family's looks); each row that meets fmt, with fmt's text TOLD by the authors' own Lean function (tested against real Go, not proved from fmt's source: count such statements apart). THE CARD IS WHAT COUNTS. Prove the row's statement (the work); the ties are given (YtbgjnghjddcooaaGreatDoorTie.lean); close each card by the builder's one call (the guide's Derived/Test/ToyasCard.lean, 'card_holds'). Laid BY PROGRAM, IN A SANDBOX (cutbox-door.mjs). By AI agents, Wed Nov 11 2026. No macro, syntax, notation, axiom, sorry.
-/
import Derived.Test.YtbgjnghjddcooaaGreatDoorRows
import GoSem.ClaimSeven
namespace Go.Proofs.YtbgjnghjddcooaaGreatDoor
namespace Rows

/-- THE TIED CARD OF 'ledgerlaw14.WebFixed'. -/
def webFixedCard : Claim7 := { stood := { row := webFixedRow, standIns := [], harness := (true, "ea9bfd1d05ea055b7c6095c6f4142de53b5634b3bc17b27ecdcfd8864a290297"), looks := true }, kinds := [], alts := [], laidByText := true, laidKinds := [.data, .data, .data, .data, .sentinel, .sentinel, .data, .sentinel, .sentinel, .sentinel, .sentinel, .sentinel, .sentinel, .sentinel, .sentinel, .sentinel, .sentinel, .sentinel, .sentinel, .data, .pinned], laidTests := true, laidLooks := .later }
def WebFixedCardSaid : Prop := Claim7.holds Tryz.pinned (.plain (OpenSpec.ofChange webFixedSpec)) webFixedCard

/-- THE TIED CARD OF 'ledgerlaw14.WebChunks'. -/
def webChunksCard : Claim7 := { stood := { row := webChunksRow, standIns := [], harness := (true, "ea9bfd1d05ea055b7c6095c6f4142de53b5634b3bc17b27ecdcfd8864a290297"), looks := true }, kinds := [], alts := [], laidByText := true, laidKinds := [.data, .data, .data, .data, .sentinel, .sentinel, .data, .sentinel, .sentinel, .sentinel, .sentinel, .sentinel, .sentinel, .sentinel, .sentinel, .sentinel, .sentinel, .sentinel, .sentinel, .data, .pinned], laidTests := true, laidLooks := .later }
def WebChunksCardSaid : Prop := Claim7.holds Tryz.pinned (.plain (OpenSpec.ofChange webChunksSpec)) webChunksCard

/-- THE TIED CARD OF 'ledgerlaw14.WebStreams'. -/
def webStreamsCard : Claim7 := { stood := { row := webStreamsRow, standIns := [], harness := (true, "ea9bfd1d05ea055b7c6095c6f4142de53b5634b3bc17b27ecdcfd8864a290297"), looks := true }, kinds := [], alts := [], laidByText := true, laidKinds := [.data, .data, .data, .data, .sentinel, .sentinel, .data, .sentinel, .sentinel, .sentinel, .sentinel, .sentinel, .sentinel, .sentinel, .sentinel, .sentinel, .sentinel, .sentinel, .sentinel, .data, .pinned], laidTests := true, laidLooks := .later }
def WebStreamsCardSaid : Prop := Claim7.holds Tryz.pinned (.plain (OpenSpec.ofChange webStreamsSpec)) webStreamsCard

/-- THE TIED CARD OF 'ledgerlaw14.WebSmuggles'. -/
def webSmugglesCard : Claim7 := { stood := { row := webSmugglesRow, standIns := [], harness := (true, "ea9bfd1d05ea055b7c6095c6f4142de53b5634b3bc17b27ecdcfd8864a290297"), looks := true }, kinds := [], alts := [], laidByText := true, laidKinds := [.data, .data, .data, .data, .sentinel, .sentinel, .data, .sentinel, .sentinel, .sentinel, .sentinel, .sentinel, .sentinel, .sentinel, .sentinel, .sentinel, .sentinel, .sentinel, .sentinel, .data, .pinned], laidTests := true, laidLooks := .later }
def WebSmugglesCardSaid : Prop := Claim7.holds Tryz.pinned (.plain (OpenSpec.ofChange webSmugglesSpec)) webSmugglesCard

/-- THE TIED CARD OF 'ledgerlaw14.WebWhole'. -/
def webWholeCard : Claim7 := { stood := { row := webWholeRow, standIns := [], harness := (true, "ea9bfd1d05ea055b7c6095c6f4142de53b5634b3bc17b27ecdcfd8864a290297"), looks := true }, kinds := [], alts := [], laidByText := true, laidKinds := [.data, .data, .data, .data, .sentinel, .sentinel, .data, .sentinel, .sentinel, .sentinel, .sentinel, .sentinel, .sentinel, .sentinel, .sentinel, .sentinel, .sentinel, .sentinel, .sentinel, .data, .pinned], laidTests := true, laidLooks := .later }
def WebWholeCardSaid : Prop := Claim7.holds Tryz.pinned (.plain (OpenSpec.ofChange webWholeSpec)) webWholeCard

/-- THE TIED CARD OF 'ledgerlaw14.WebAnswers'. -/
def webAnswersCard : Claim7 := { stood := { row := webAnswersRow, standIns := [], harness := (true, "ea9bfd1d05ea055b7c6095c6f4142de53b5634b3bc17b27ecdcfd8864a290297"), looks := true }, kinds := [], alts := [], laidByText := true, laidKinds := [.data, .data, .data, .data, .sentinel, .sentinel, .data, .data, .sentinel, .sentinel, .sentinel, .sentinel, .sentinel, .sentinel, .sentinel, .sentinel, .sentinel, .sentinel, .sentinel, .sentinel, .data, .pinned], laidTests := true, laidLooks := .later }
def WebAnswersCardSaid : Prop := Claim7.holds Tryz.pinned (.plain (OpenSpec.ofChange webAnswersSpec)) webAnswersCard

/-- THE SECOND FORM's CARD OF 'ledgerlaw14.WebFixed'. -/
def webFixedUptoCard : Claim7 := { stood := { row := webFixedUptoRow, standIns := [], harness := (true, "ea9bfd1d05ea055b7c6095c6f4142de53b5634b3bc17b27ecdcfd8864a290297"), looks := true }, kinds := [], alts := [], laidByText := true, laidKinds := [.data, .data, .data, .data, .sentinel, .sentinel, .data, .sentinel, .sentinel, .sentinel, .sentinel, .sentinel, .sentinel, .sentinel, .sentinel, .sentinel, .sentinel, .sentinel, .sentinel, .data, .pinned], laidTests := true, laidLooks := .later }
def WebFixedUptoCardSaid : Prop := Claim7.holds Tryz.pinned (.plain (OpenSpec.upto webFixedSpec)) webFixedUptoCard

/-- THE SECOND FORM's CARD OF 'ledgerlaw14.WebChunks'. -/
def webChunksUptoCard : Claim7 := { stood := { row := webChunksUptoRow, standIns := [], harness := (true, "ea9bfd1d05ea055b7c6095c6f4142de53b5634b3bc17b27ecdcfd8864a290297"), looks := true }, kinds := [], alts := [], laidByText := true, laidKinds := [.data, .data, .data, .data, .sentinel, .sentinel, .data, .sentinel, .sentinel, .sentinel, .sentinel, .sentinel, .sentinel, .sentinel, .sentinel, .sentinel, .sentinel, .sentinel, .sentinel, .data, .pinned], laidTests := true, laidLooks := .later }
def WebChunksUptoCardSaid : Prop := Claim7.holds Tryz.pinned (.plain (OpenSpec.upto webChunksSpec)) webChunksUptoCard

/-- THE SECOND FORM's CARD OF 'ledgerlaw14.WebStreams'. -/
def webStreamsUptoCard : Claim7 := { stood := { row := webStreamsUptoRow, standIns := [], harness := (true, "ea9bfd1d05ea055b7c6095c6f4142de53b5634b3bc17b27ecdcfd8864a290297"), looks := true }, kinds := [], alts := [], laidByText := true, laidKinds := [.data, .data, .data, .data, .sentinel, .sentinel, .data, .sentinel, .sentinel, .sentinel, .sentinel, .sentinel, .sentinel, .sentinel, .sentinel, .sentinel, .sentinel, .sentinel, .sentinel, .data, .pinned], laidTests := true, laidLooks := .later }
def WebStreamsUptoCardSaid : Prop := Claim7.holds Tryz.pinned (.plain (OpenSpec.upto webStreamsSpec)) webStreamsUptoCard

/-- THE SECOND FORM's CARD OF 'ledgerlaw14.WebSmuggles'. -/
def webSmugglesUptoCard : Claim7 := { stood := { row := webSmugglesUptoRow, standIns := [], harness := (true, "ea9bfd1d05ea055b7c6095c6f4142de53b5634b3bc17b27ecdcfd8864a290297"), looks := true }, kinds := [], alts := [], laidByText := true, laidKinds := [.data, .data, .data, .data, .sentinel, .sentinel, .data, .sentinel, .sentinel, .sentinel, .sentinel, .sentinel, .sentinel, .sentinel, .sentinel, .sentinel, .sentinel, .sentinel, .sentinel, .data, .pinned], laidTests := true, laidLooks := .later }
def WebSmugglesUptoCardSaid : Prop := Claim7.holds Tryz.pinned (.plain (OpenSpec.upto webSmugglesSpec)) webSmugglesUptoCard

/-- THE SECOND FORM's CARD OF 'ledgerlaw14.WebWhole'. -/
def webWholeUptoCard : Claim7 := { stood := { row := webWholeUptoRow, standIns := [], harness := (true, "ea9bfd1d05ea055b7c6095c6f4142de53b5634b3bc17b27ecdcfd8864a290297"), looks := true }, kinds := [], alts := [], laidByText := true, laidKinds := [.data, .data, .data, .data, .sentinel, .sentinel, .data, .sentinel, .sentinel, .sentinel, .sentinel, .sentinel, .sentinel, .sentinel, .sentinel, .sentinel, .sentinel, .sentinel, .sentinel, .data, .pinned], laidTests := true, laidLooks := .later }
def WebWholeUptoCardSaid : Prop := Claim7.holds Tryz.pinned (.plain (OpenSpec.upto webWholeSpec)) webWholeUptoCard

/-- THE SECOND FORM's CARD OF 'ledgerlaw14.WebAnswers'. -/
def webAnswersUptoCard : Claim7 := { stood := { row := webAnswersUptoRow, standIns := [], harness := (true, "ea9bfd1d05ea055b7c6095c6f4142de53b5634b3bc17b27ecdcfd8864a290297"), looks := true }, kinds := [], alts := [], laidByText := true, laidKinds := [.data, .data, .data, .data, .sentinel, .sentinel, .data, .data, .sentinel, .sentinel, .sentinel, .sentinel, .sentinel, .sentinel, .sentinel, .sentinel, .sentinel, .sentinel, .sentinel, .sentinel, .data, .pinned], laidTests := true, laidLooks := .later }
def WebAnswersUptoCardSaid : Prop := Claim7.holds Tryz.pinned (.plain (OpenSpec.upto webAnswersSpec)) webAnswersUptoCard
end Rows
end Go.Proofs.YtbgjnghjddcooaaGreatDoor
