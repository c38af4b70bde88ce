/-
  NARROWER THAN 'FOR EVERY INPUT', by the rows' own cells (each row's printed sentence says how): ModverSorts: laid · ModverFits: laid · ModverKeeps: laid · ModverTexts: laid · ModverAll: laid.
  DERIVED. THE GIVEN ROWS OF THIS SEAT. 5 by the template 'for every input the law returns true; each argument reads behind the call as it read before'; 0 by the template 'total and deterministic' (their statements: YtnciglpdjpckiaaGreatDoorTotals.lean).
  GIVEN WITH THE SEED: the statements are not yours to turn. If you find one false, say at which input.
  Laid BY PROGRAM, IN A SANDBOX (cutbox-rows.mjs): the forced cells as the released guide's own fill.sh prints them over the translation 81010dfea1c39572… (all of the seat's roots in one cut). By AI agents, Wed Nov 11 2026. No macro, syntax, notation, axiom, sorry.
-/
import Derived.Test.YtnciglpdjpckiaaGreatDoorChecked
import GoSem.PinnedTables
import GoSem.Claim
import GoSem.ClaimJoined
import GoSem.ClaimMapViews
import Derived.JoinedTies
import Derived.KernelRfl
namespace Go.Proofs.YtnciglpdjpckiaaGreatDoor
/- THE CELL 'sum', in the pinned program and in every row, IS THE sha256 OF THE DUMP (.gsa) THAT YtnciglpdjpckiaaGreatDoorProg.lean LOADS. Nothing in Lean hashes anything: it is a label: what it is worth is what the hold of that sum in a sandbox is worth. -/
noncomputable def Tryz.pinned : Pinned := { name := "ytnciglpdjpckiaagreatdoor", sum := "81010dfea1c39572c0da15fe9fa86a5967cd7533a3bf924f7989c8d97f4f0869", checked := Tryz.checked }
namespace Rows
def none {H : Type} : Left H := { results := [], args := [] }

/- WHAT THE LISTED PACKAGE-LEVEL VARIABLES READ AS WHEN THE CALL BEGINS. Each datum BY PROGRAM (the guide's laid-datum.mjs) off the statement by which the dump's own 'gosem.cut.vars' lays the variable. In a bare row this is a premise. The card (YtnciglpdjpckiaaGreatDoorCards.lean) ties it to the program's text. -/
def laid_unicode_utf8_acceptRanges {H : Type} : DataW H := .agg [.agg [.lit (.int .u8 128), .lit (.int .u8 191)], .agg [.lit (.int .u8 160), .lit (.int .u8 191)], .agg [.lit (.int .u8 128), .lit (.int .u8 159)], .agg [.lit (.int .u8 144), .lit (.int .u8 191)], .agg [.lit (.int .u8 128), .lit (.int .u8 143)], .agg [.lit (.int .u8 0), .lit (.int .u8 0)], .agg [.lit (.int .u8 0), .lit (.int .u8 0)], .agg [.lit (.int .u8 0), .lit (.int .u8 0)], .agg [.lit (.int .u8 0), .lit (.int .u8 0)], .agg [.lit (.int .u8 0), .lit (.int .u8 0)], .agg [.lit (.int .u8 0), .lit (.int .u8 0)], .agg [.lit (.int .u8 0), .lit (.int .u8 0)], .agg [.lit (.int .u8 0), .lit (.int .u8 0)], .agg [.lit (.int .u8 0), .lit (.int .u8 0)], .agg [.lit (.int .u8 0), .lit (.int .u8 0)], .agg [.lit (.int .u8 0), .lit (.int .u8 0)]]
def laid_ledger_modver_characters {H : Type} : DataW H := .agg [.agg [.lit (.int .i32 97), .lit (.int .i32 122), .lit (.int .u8 1)], .agg [.lit (.int .i32 65), .lit (.int .i32 90), .lit (.int .u8 2)], .agg [.lit (.int .i32 48), .lit (.int .i32 57), .lit (.int .u8 4)], .agg [.lit (.int .i32 45), .lit (.int .i32 45), .lit (.int .u8 8)], .agg [.lit (.int .i32 46), .lit (.int .i32 46), .lit (.int .u8 16)], .agg [.lit (.int .i32 95), .lit (.int .i32 95), .lit (.int .u8 32)], .agg [.lit (.int .i32 126), .lit (.int .i32 126), .lit (.int .u8 32)], .agg [.lit (.int .i32 47), .lit (.int .i32 47), .lit (.int .u8 64)]]
def laid_ledger_modver_reserved {H : Type} : DataW H := .agg [.lit (.string [99, 111, 110]), .lit (.string [112, 114, 110]), .lit (.string [97, 117, 120]), .lit (.string [110, 117, 108]), .lit (.string [99, 111, 109, 49]), .lit (.string [99, 111, 109, 50]), .lit (.string [99, 111, 109, 51]), .lit (.string [99, 111, 109, 52]), .lit (.string [99, 111, 109, 53]), .lit (.string [99, 111, 109, 54]), .lit (.string [99, 111, 109, 55]), .lit (.string [99, 111, 109, 56]), .lit (.string [99, 111, 109, 57]), .lit (.string [108, 112, 116, 49]), .lit (.string [108, 112, 116, 50]), .lit (.string [108, 112, 116, 51]), .lit (.string [108, 112, 116, 52]), .lit (.string [108, 112, 116, 53]), .lit (.string [108, 112, 116, 54]), .lit (.string [108, 112, 116, 55]), .lit (.string [108, 112, 116, 56]), .lit (.string [108, 112, 116, 57])]
/-- One of Go's own tables, pinned by name: the form's constant. -/
def laid_unicode_CaseRanges : DataW Unit := Go.Pinned.caseRanges
/-- One of Go's own tables, pinned by name: the form's constant. -/
def laid_unicode_utf8_first : DataW Unit := Go.Pinned.utf8First
def laid_ledger_ledgerref11_taken {H : Type} : DataW H := .agg [.lit (.string [99, 111, 110]), .lit (.string [112, 114, 110]), .lit (.string [97, 117, 120]), .lit (.string [110, 117, 108]), .lit (.string [99, 111, 109, 49]), .lit (.string [99, 111, 109, 50]), .lit (.string [99, 111, 109, 51]), .lit (.string [99, 111, 109, 52]), .lit (.string [99, 111, 109, 53]), .lit (.string [99, 111, 109, 54]), .lit (.string [99, 111, 109, 55]), .lit (.string [99, 111, 109, 56]), .lit (.string [99, 111, 109, 57]), .lit (.string [108, 112, 116, 49]), .lit (.string [108, 112, 116, 50]), .lit (.string [108, 112, 116, 51]), .lit (.string [108, 112, 116, 52]), .lit (.string [108, 112, 116, 53]), .lit (.string [108, 112, 116, 54]), .lit (.string [108, 112, 116, 55]), .lit (.string [108, 112, 116, 56]), .lit (.string [108, 112, 116, 57])]
def laid_ledger_text_letters {H : Type} : DataW H := .agg [.lit (.int .u8 65), .lit (.int .u8 66), .lit (.int .u8 67), .lit (.int .u8 68), .lit (.int .u8 69), .lit (.int .u8 70), .lit (.int .u8 71), .lit (.int .u8 72), .lit (.int .u8 73), .lit (.int .u8 74), .lit (.int .u8 75), .lit (.int .u8 76), .lit (.int .u8 77), .lit (.int .u8 78), .lit (.int .u8 79), .lit (.int .u8 80), .lit (.int .u8 81), .lit (.int .u8 82), .lit (.int .u8 83), .lit (.int .u8 84), .lit (.int .u8 85), .lit (.int .u8 86), .lit (.int .u8 87), .lit (.int .u8 88), .lit (.int .u8 89), .lit (.int .u8 90), .lit (.int .u8 97), .lit (.int .u8 98), .lit (.int .u8 99), .lit (.int .u8 100), .lit (.int .u8 101), .lit (.int .u8 102), .lit (.int .u8 103), .lit (.int .u8 104), .lit (.int .u8 105), .lit (.int .u8 106), .lit (.int .u8 107), .lit (.int .u8 108), .lit (.int .u8 109), .lit (.int .u8 110), .lit (.int .u8 111), .lit (.int .u8 112), .lit (.int .u8 113), .lit (.int .u8 114), .lit (.int .u8 115), .lit (.int .u8 116), .lit (.int .u8 117), .lit (.int .u8 118), .lit (.int .u8 119), .lit (.int .u8 120), .lit (.int .u8 121), .lit (.int .u8 122), .lit (.int .u8 48), .lit (.int .u8 49), .lit (.int .u8 50), .lit (.int .u8 51), .lit (.int .u8 52), .lit (.int .u8 53), .lit (.int .u8 54), .lit (.int .u8 55), .lit (.int .u8 56), .lit (.int .u8 57), .lit (.int .u8 43), .lit (.int .u8 47)]

/-- 'ledgerlaw11.ModverSorts': WHATEVER THE INPUT: true; the input reads as it did. -/
def modverSortsSpec : ChangeSpec := { name := "modverSorts", fn := fun _ => fun
  | [d] => { results := [.lit (.bool true)], args := [d] }
  | _ => none }
def modverSortsRow : OpenClaim := { program := "ytnciglpdjpckiaagreatdoor", sum := "81010dfea1c39572c0da15fe9fa86a5967cd7533a3bf924f7989c8d97f4f0869", func := "ledger/ledgerlaw11.ModverSorts", spec := "modverSorts", inPlace := ["internal/bytealg.IndexByteString", "internal/bytealg.IndexString", "internal/bytealg.CountString", "internal/abi.NoEscape", "internal/bytealg.MakeNoZero"], unfollowed := true, recurses := true, named := ["internal/bytealg.MaxLen", "ledger/modver.characters", "unicode/utf8.first", "unicode/utf8.acceptRanges", "unicode.CaseRanges", "ledger/modver.reserved"], apart := false, laid := [("unicode/utf8.acceptRanges", laid_unicode_utf8_acceptRanges), ("ledger/modver.characters", laid_ledger_modver_characters), ("ledger/modver.reserved", laid_ledger_modver_reserved), ("unicode.CaseRanges", laid_unicode_CaseRanges), ("unicode/utf8.first", laid_unicode_utf8_first)] }
def ModverSortsSaid : Prop := modverSortsRow.holds Tryz.pinned (OpenSpec.ofChange modverSortsSpec)

/-- ITS FALSE NEIGHBOUR: 'it returns false'. Refute it at one input. -/
def modverSortsWrong : ChangeSpec := { name := "modverSorts", fn := fun _ => fun
  | [d] => { results := [.lit (.bool false)], args := [d] }
  | _ => none }
def ModverSortsWrongFalsely : Prop := modverSortsRow.holds Tryz.pinned (OpenSpec.ofChange modverSortsWrong)

/-- 'ledgerlaw11.ModverFits': WHATEVER THE INPUT: true; the input reads as it did. -/
def modverFitsSpec : ChangeSpec := { name := "modverFits", fn := fun _ => fun
  | [d1, d2, d3] => { results := [.lit (.bool true)], args := [d1, d2, d3] }
  | _ => none }
def modverFitsRow : OpenClaim := { program := "ytnciglpdjpckiaagreatdoor", sum := "81010dfea1c39572c0da15fe9fa86a5967cd7533a3bf924f7989c8d97f4f0869", func := "ledger/ledgerlaw11.ModverFits", spec := "modverFits", inPlace := ["internal/bytealg.CountString", "internal/bytealg.IndexByteString", "internal/bytealg.IndexString", "internal/abi.NoEscape", "internal/bytealg.MakeNoZero"], unfollowed := true, recurses := true, named := ["ledger/ledgerref11.taken", "ledger/modver.characters", "unicode/utf8.first", "unicode/utf8.acceptRanges", "internal/bytealg.MaxLen", "unicode.CaseRanges", "ledger/modver.reserved", "ledger/text.letters"], apart := false, laid := [("ledger/ledgerref11.taken", laid_ledger_ledgerref11_taken), ("unicode/utf8.acceptRanges", laid_unicode_utf8_acceptRanges), ("ledger/text.letters", laid_ledger_text_letters), ("ledger/modver.characters", laid_ledger_modver_characters), ("ledger/modver.reserved", laid_ledger_modver_reserved), ("unicode.CaseRanges", laid_unicode_CaseRanges), ("unicode/utf8.first", laid_unicode_utf8_first)] }
def ModverFitsSaid : Prop := modverFitsRow.holds Tryz.pinned (OpenSpec.ofChange modverFitsSpec)

/-- ITS FALSE NEIGHBOUR: 'it returns false'. Refute it at one input. -/
def modverFitsWrong : ChangeSpec := { name := "modverFits", fn := fun _ => fun
  | [d1, d2, d3] => { results := [.lit (.bool false)], args := [d1, d2, d3] }
  | _ => none }
def ModverFitsWrongFalsely : Prop := modverFitsRow.holds Tryz.pinned (OpenSpec.ofChange modverFitsWrong)

/-- 'ledgerlaw11.ModverKeeps': WHATEVER THE INPUT: true; the input reads as it did. -/
def modverKeepsSpec : ChangeSpec := { name := "modverKeeps", fn := fun _ => fun
  | [d] => { results := [.lit (.bool true)], args := [d] }
  | _ => none }
def modverKeepsRow : OpenClaim := { program := "ytnciglpdjpckiaagreatdoor", sum := "81010dfea1c39572c0da15fe9fa86a5967cd7533a3bf924f7989c8d97f4f0869", func := "ledger/ledgerlaw11.ModverKeeps", spec := "modverKeeps", inPlace := ["internal/bytealg.IndexByteString", "internal/bytealg.IndexString", "internal/bytealg.CountString", "internal/abi.NoEscape", "internal/bytealg.MakeNoZero"], unfollowed := true, recurses := true, named := ["ledger/ledgerref11.taken", "internal/bytealg.MaxLen", "ledger/modver.characters", "unicode/utf8.first", "unicode/utf8.acceptRanges", "unicode.CaseRanges", "ledger/modver.reserved"], apart := false, laid := [("ledger/ledgerref11.taken", laid_ledger_ledgerref11_taken), ("unicode/utf8.acceptRanges", laid_unicode_utf8_acceptRanges), ("ledger/modver.characters", laid_ledger_modver_characters), ("ledger/modver.reserved", laid_ledger_modver_reserved), ("unicode.CaseRanges", laid_unicode_CaseRanges), ("unicode/utf8.first", laid_unicode_utf8_first)] }
def ModverKeepsSaid : Prop := modverKeepsRow.holds Tryz.pinned (OpenSpec.ofChange modverKeepsSpec)

/-- ITS FALSE NEIGHBOUR: 'it returns false'. Refute it at one input. -/
def modverKeepsWrong : ChangeSpec := { name := "modverKeeps", fn := fun _ => fun
  | [d] => { results := [.lit (.bool false)], args := [d] }
  | _ => none }
def ModverKeepsWrongFalsely : Prop := modverKeepsRow.holds Tryz.pinned (OpenSpec.ofChange modverKeepsWrong)

/-- 'ledgerlaw11.ModverTexts': WHATEVER THE INPUT: true; the input reads as it did. -/
def modverTextsSpec : ChangeSpec := { name := "modverTexts", fn := fun _ => fun
  | [d] => { results := [.lit (.bool true)], args := [d] }
  | _ => none }
def modverTextsRow : OpenClaim := { program := "ytnciglpdjpckiaagreatdoor", sum := "81010dfea1c39572c0da15fe9fa86a5967cd7533a3bf924f7989c8d97f4f0869", func := "ledger/ledgerlaw11.ModverTexts", spec := "modverTexts", inPlace := ["internal/bytealg.CountString", "internal/bytealg.IndexByteString", "internal/bytealg.IndexString", "internal/abi.NoEscape", "internal/bytealg.MakeNoZero"], unfollowed := true, recurses := true, named := ["ledger/modver.characters", "unicode/utf8.first", "unicode/utf8.acceptRanges", "internal/bytealg.MaxLen", "unicode.CaseRanges", "ledger/modver.reserved", "ledger/ledgerref11.taken", "ledger/text.letters"], apart := false, laid := [("ledger/ledgerref11.taken", laid_ledger_ledgerref11_taken), ("unicode/utf8.acceptRanges", laid_unicode_utf8_acceptRanges), ("ledger/text.letters", laid_ledger_text_letters), ("ledger/modver.characters", laid_ledger_modver_characters), ("ledger/modver.reserved", laid_ledger_modver_reserved), ("unicode.CaseRanges", laid_unicode_CaseRanges), ("unicode/utf8.first", laid_unicode_utf8_first)] }
def ModverTextsSaid : Prop := modverTextsRow.holds Tryz.pinned (OpenSpec.ofChange modverTextsSpec)

/-- ITS FALSE NEIGHBOUR: 'it returns false'. Refute it at one input. -/
def modverTextsWrong : ChangeSpec := { name := "modverTexts", fn := fun _ => fun
  | [d] => { results := [.lit (.bool false)], args := [d] }
  | _ => none }
def ModverTextsWrongFalsely : Prop := modverTextsRow.holds Tryz.pinned (OpenSpec.ofChange modverTextsWrong)

/-- 'ledgerlaw11.ModverAll': WHATEVER THE INPUT: true; the input reads as it did. -/
def modverAllSpec : ChangeSpec := { name := "modverAll", fn := fun _ => fun
  | [d] => { results := [.lit (.bool true)], args := [d] }
  | _ => none }
def modverAllRow : OpenClaim := { program := "ytnciglpdjpckiaagreatdoor", sum := "81010dfea1c39572c0da15fe9fa86a5967cd7533a3bf924f7989c8d97f4f0869", func := "ledger/ledgerlaw11.ModverAll", spec := "modverAll", inPlace := ["internal/bytealg.CountString", "internal/bytealg.IndexByteString", "internal/bytealg.IndexString", "internal/abi.NoEscape", "internal/bytealg.MakeNoZero"], unfollowed := true, recurses := true, named := ["ledger/modver.characters", "unicode/utf8.first", "unicode/utf8.acceptRanges", "internal/bytealg.MaxLen", "unicode.CaseRanges", "ledger/modver.reserved", "ledger/ledgerref11.taken", "ledger/text.letters"], apart := false, laid := [("ledger/ledgerref11.taken", laid_ledger_ledgerref11_taken), ("unicode/utf8.acceptRanges", laid_unicode_utf8_acceptRanges), ("ledger/text.letters", laid_ledger_text_letters), ("ledger/modver.characters", laid_ledger_modver_characters), ("ledger/modver.reserved", laid_ledger_modver_reserved), ("unicode.CaseRanges", laid_unicode_CaseRanges), ("unicode/utf8.first", laid_unicode_utf8_first)] }
def ModverAllSaid : Prop := modverAllRow.holds Tryz.pinned (OpenSpec.ofChange modverAllSpec)

/-- ITS FALSE NEIGHBOUR: 'it returns false'. Refute it at one input. -/
def modverAllWrong : ChangeSpec := { name := "modverAll", fn := fun _ => fun
  | [d] => { results := [.lit (.bool false)], args := [d] }
  | _ => none }
def ModverAllWrongFalsely : Prop := modverAllRow.holds Tryz.pinned (OpenSpec.ofChange modverAllWrong)

/- THE SECOND FORM. 'bulk': how many values and letters a reading holds, each counted each time it is reached (what is shared counts as often as it is met; a slice's spare places count too). A statement '..UptoSaid' is the law's where the arguments, and the package variables that the reading takes, are together of bulk at most 1048576: NARROWER than '..Said'. Prove '..Said' where nothing that the law and all that it calls make is longer than what came in: it says more and counts as full. Else prove '..UptoSaid'. A law counts once. -/
mutual
def uptoBulk {H : Type} : DataW H → Nat
  | .lit (.string bytes) => bytes.length + 1
  | .lit _ => 1
  | .nil => 1
  | .ptr d => uptoBulk d + 1
  | .slice elems spare => uptoBulkAll elems + uptoBulkAll spare + 1
  | .agg parts => uptoBulkAll parts + 1
  | .iface _ d => uptoBulk d + 1
  | .map entries => uptoBulkEntries entries + 1
  | .held _ => 1
def uptoBulkAll {H : Type} : List (DataW H) → Nat
  | [] => 0
  | d :: r => uptoBulk d + uptoBulkAll r
def uptoBulkEntries {H : Type} : List (Lit × DataW H) → Nat
  | [] => 0
  | x :: r => uptoBulkEntry x + uptoBulkEntries r
def uptoBulkEntry {H : Type} : Lit × DataW H → Nat
  | (.string bytes, d) => bytes.length + uptoBulk d + 1
  | (_, d) => uptoBulk d + 1
 end
def uptoSmall : (H : Type) → List (DataW H) → Bool := fun _ ds => decide (uptoBulkAll ds ≤ 1048576)
def OpenSpec.upto (s : _root_.Go.ChangeSpec) : _root_.Go.OpenSpec := { _root_.Go.OpenSpec.ofChange s with cond := some uptoSmall }

/-- 'ledgerlaw11.ModverSorts', WHERE WHAT IT READS IS OF BULK AT MOST 1048576: true; the input reads as it did. -/
def modverSortsUptoRow : OpenClaim := { program := "ytnciglpdjpckiaagreatdoor", sum := "81010dfea1c39572c0da15fe9fa86a5967cd7533a3bf924f7989c8d97f4f0869", func := "ledger/ledgerlaw11.ModverSorts", spec := "modverSorts", inPlace := ["internal/bytealg.IndexByteString", "internal/bytealg.IndexString", "internal/bytealg.CountString", "internal/abi.NoEscape", "internal/bytealg.MakeNoZero"], unfollowed := true, recurses := true, named := ["internal/bytealg.MaxLen", "ledger/modver.characters", "unicode/utf8.first", "unicode/utf8.acceptRanges", "unicode.CaseRanges", "ledger/modver.reserved"], apart := false, laid := [("unicode/utf8.acceptRanges", laid_unicode_utf8_acceptRanges), ("ledger/modver.characters", laid_ledger_modver_characters), ("ledger/modver.reserved", laid_ledger_modver_reserved), ("unicode.CaseRanges", laid_unicode_CaseRanges), ("unicode/utf8.first", laid_unicode_utf8_first)], narrowed := true }
def ModverSortsUptoSaid : Prop := modverSortsUptoRow.holds Tryz.pinned (OpenSpec.upto modverSortsSpec)

/-- 'ledgerlaw11.ModverFits', WHERE WHAT IT READS IS OF BULK AT MOST 1048576: true; the input reads as it did. -/
def modverFitsUptoRow : OpenClaim := { program := "ytnciglpdjpckiaagreatdoor", sum := "81010dfea1c39572c0da15fe9fa86a5967cd7533a3bf924f7989c8d97f4f0869", func := "ledger/ledgerlaw11.ModverFits", spec := "modverFits", inPlace := ["internal/bytealg.CountString", "internal/bytealg.IndexByteString", "internal/bytealg.IndexString", "internal/abi.NoEscape", "internal/bytealg.MakeNoZero"], unfollowed := true, recurses := true, named := ["ledger/ledgerref11.taken", "ledger/modver.characters", "unicode/utf8.first", "unicode/utf8.acceptRanges", "internal/bytealg.MaxLen", "unicode.CaseRanges", "ledger/modver.reserved", "ledger/text.letters"], apart := false, laid := [("ledger/ledgerref11.taken", laid_ledger_ledgerref11_taken), ("unicode/utf8.acceptRanges", laid_unicode_utf8_acceptRanges), ("ledger/text.letters", laid_ledger_text_letters), ("ledger/modver.characters", laid_ledger_modver_characters), ("ledger/modver.reserved", laid_ledger_modver_reserved), ("unicode.CaseRanges", laid_unicode_CaseRanges), ("unicode/utf8.first", laid_unicode_utf8_first)], narrowed := true }
def ModverFitsUptoSaid : Prop := modverFitsUptoRow.holds Tryz.pinned (OpenSpec.upto modverFitsSpec)

/-- 'ledgerlaw11.ModverKeeps', WHERE WHAT IT READS IS OF BULK AT MOST 1048576: true; the input reads as it did. -/
def modverKeepsUptoRow : OpenClaim := { program := "ytnciglpdjpckiaagreatdoor", sum := "81010dfea1c39572c0da15fe9fa86a5967cd7533a3bf924f7989c8d97f4f0869", func := "ledger/ledgerlaw11.ModverKeeps", spec := "modverKeeps", inPlace := ["internal/bytealg.IndexByteString", "internal/bytealg.IndexString", "internal/bytealg.CountString", "internal/abi.NoEscape", "internal/bytealg.MakeNoZero"], unfollowed := true, recurses := true, named := ["ledger/ledgerref11.taken", "internal/bytealg.MaxLen", "ledger/modver.characters", "unicode/utf8.first", "unicode/utf8.acceptRanges", "unicode.CaseRanges", "ledger/modver.reserved"], apart := false, laid := [("ledger/ledgerref11.taken", laid_ledger_ledgerref11_taken), ("unicode/utf8.acceptRanges", laid_unicode_utf8_acceptRanges), ("ledger/modver.characters", laid_ledger_modver_characters), ("ledger/modver.reserved", laid_ledger_modver_reserved), ("unicode.CaseRanges", laid_unicode_CaseRanges), ("unicode/utf8.first", laid_unicode_utf8_first)], narrowed := true }
def ModverKeepsUptoSaid : Prop := modverKeepsUptoRow.holds Tryz.pinned (OpenSpec.upto modverKeepsSpec)

/-- 'ledgerlaw11.ModverTexts', WHERE WHAT IT READS IS OF BULK AT MOST 1048576: true; the input reads as it did. -/
def modverTextsUptoRow : OpenClaim := { program := "ytnciglpdjpckiaagreatdoor", sum := "81010dfea1c39572c0da15fe9fa86a5967cd7533a3bf924f7989c8d97f4f0869", func := "ledger/ledgerlaw11.ModverTexts", spec := "modverTexts", inPlace := ["internal/bytealg.CountString", "internal/bytealg.IndexByteString", "internal/bytealg.IndexString", "internal/abi.NoEscape", "internal/bytealg.MakeNoZero"], unfollowed := true, recurses := true, named := ["ledger/modver.characters", "unicode/utf8.first", "unicode/utf8.acceptRanges", "internal/bytealg.MaxLen", "unicode.CaseRanges", "ledger/modver.reserved", "ledger/ledgerref11.taken", "ledger/text.letters"], apart := false, laid := [("ledger/ledgerref11.taken", laid_ledger_ledgerref11_taken), ("unicode/utf8.acceptRanges", laid_unicode_utf8_acceptRanges), ("ledger/text.letters", laid_ledger_text_letters), ("ledger/modver.characters", laid_ledger_modver_characters), ("ledger/modver.reserved", laid_ledger_modver_reserved), ("unicode.CaseRanges", laid_unicode_CaseRanges), ("unicode/utf8.first", laid_unicode_utf8_first)], narrowed := true }
def ModverTextsUptoSaid : Prop := modverTextsUptoRow.holds Tryz.pinned (OpenSpec.upto modverTextsSpec)

/-- 'ledgerlaw11.ModverAll', WHERE WHAT IT READS IS OF BULK AT MOST 1048576: true; the input reads as it did. -/
def modverAllUptoRow : OpenClaim := { program := "ytnciglpdjpckiaagreatdoor", sum := "81010dfea1c39572c0da15fe9fa86a5967cd7533a3bf924f7989c8d97f4f0869", func := "ledger/ledgerlaw11.ModverAll", spec := "modverAll", inPlace := ["internal/bytealg.CountString", "internal/bytealg.IndexByteString", "internal/bytealg.IndexString", "internal/abi.NoEscape", "internal/bytealg.MakeNoZero"], unfollowed := true, recurses := true, named := ["ledger/modver.characters", "unicode/utf8.first", "unicode/utf8.acceptRanges", "internal/bytealg.MaxLen", "unicode.CaseRanges", "ledger/modver.reserved", "ledger/ledgerref11.taken", "ledger/text.letters"], apart := false, laid := [("ledger/ledgerref11.taken", laid_ledger_ledgerref11_taken), ("unicode/utf8.acceptRanges", laid_unicode_utf8_acceptRanges), ("ledger/text.letters", laid_ledger_text_letters), ("ledger/modver.characters", laid_ledger_modver_characters), ("ledger/modver.reserved", laid_ledger_modver_reserved), ("unicode.CaseRanges", laid_unicode_CaseRanges), ("unicode/utf8.first", laid_unicode_utf8_first)], narrowed := true }
def ModverAllUptoSaid : Prop := modverAllUptoRow.holds Tryz.pinned (OpenSpec.upto modverAllSpec)

end Rows
end Go.Proofs.YtnciglpdjpckiaaGreatDoor
