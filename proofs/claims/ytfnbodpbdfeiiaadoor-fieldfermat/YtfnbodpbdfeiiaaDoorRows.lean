/-
  NARROWER THAN 'FOR EVERY INPUT', by the rows' own cells (each row's printed sentence says how): FieldPowers: laid · FieldSymbols: laid · FieldBatches: laid · FieldInverts: laid · FieldFermat: laid · FieldRoots: laid.
  DERIVED. THE GIVEN ROWS OF THIS SEAT. 6 by the template 'for every input the law returns true; each argument reads behind the call as it read before'; 0 by the template 'total and deterministic' (their statements: YtfnbodpbdfeiiaaDoorTotals.lean).
  GIVEN WITH THE SEED: the statements are not yours to turn. If you find one false, say at which input.
  Laid BY PROGRAM, IN A SANDBOX (cutbox-rows.mjs): the forced cells as the released guide's own fill.sh prints them over the translation f98867b005e6fbae… (all of the seat's roots in one cut). By AI agents, Wed Nov 11 2026. No macro, syntax, notation, axiom, sorry.
-/
import Derived.Test.YtfnbodpbdfeiiaaDoorChecked
import GoSem.Claim
import GoSem.ClaimJoined
import GoSem.ClaimMapViews
import Derived.JoinedTies
import Derived.KernelRfl
namespace Go.Proofs.YtfnbodpbdfeiiaaDoor
/- THE CELL 'sum', in the pinned program and in every row, IS THE sha256 OF THE DUMP (.gsa) THAT YtfnbodpbdfeiiaaDoorProg.lean LOADS. Nothing in Lean hashes anything: it is a label: what it is worth is what the hold of that sum in a sandbox is worth. -/
noncomputable def Tryd.pinned : Pinned := { name := "ytfnbodpbdfeiiaadoor", sum := "f98867b005e6fbae8df666a10d4f2b4fdc808ba5153642aa5c1a9e18c32d588c", checked := Tryd.checked }
namespace Rows
def none {H : Type} : Left H := { results := [], args := [] }

/- WHAT THE LISTED PACKAGE-LEVEL VARIABLES READ AS WHEN THE CALL BEGINS. Each datum BY PROGRAM (the guide's laid-datum.mjs) off the statement by which the dump's own 'gosem.cut.vars' lays the variable. In a bare row this is a premise. The card (YtfnbodpbdfeiiaaDoorCards.lean) ties it to the program's text. -/
def laid_ledger_field_one {H : Type} : DataW H := .agg [.lit (.int .u64 1), .lit (.int .u64 0), .lit (.int .u64 0), .lit (.int .u64 0)]
def laid_ledger_field_powers {H : Type} : DataW H := .agg [.agg [.lit (.int .i64 1), .lit (.int .i64 0)], .agg [.lit (.int .i64 2), .lit (.int .i64 1)], .agg [.lit (.int .i64 1), .lit (.int .i64 0)], .agg [.lit (.int .i64 5), .lit (.int .i64 3)], .agg [.lit (.int .i64 10), .lit (.int .i64 4)], .agg [.lit (.int .i64 20), .lit (.int .i64 5)], .agg [.lit (.int .i64 10), .lit (.int .i64 4)], .agg [.lit (.int .i64 50), .lit (.int .i64 7)], .agg [.lit (.int .i64 100), .lit (.int .i64 8)], .agg [.lit (.int .i64 50), .lit (.int .i64 7)]]
def laid_ledger_field_rootOfMinusOne {H : Type} : DataW H := .agg [.lit (.int .u64 14190309331451158704), .lit (.int .u64 3405592160176694392), .lit (.int .u64 3120150775007532967), .lit (.int .u64 3135389899092516619)]

/-- 'ledgerlaw02.FieldPowers': WHATEVER THE INPUT: true; the input reads as it did. -/
def fieldPowersSpec : ChangeSpec := { name := "fieldPowers", fn := fun _ => fun
  | [d1, d2] => { results := [.lit (.bool true)], args := [d1, d2] }
  | _ => none }
def fieldPowersRow : OpenClaim := { program := "ytfnbodpbdfeiiaadoor", sum := "f98867b005e6fbae8df666a10d4f2b4fdc808ba5153642aa5c1a9e18c32d588c", func := "ledger/ledgerlaw02.FieldPowers", spec := "fieldPowers", inPlace := ["math/bits.Add64"], named := ["ledger/field.one"], apart := false, laid := [("ledger/field.one", laid_ledger_field_one)] }
def FieldPowersSaid : Prop := fieldPowersRow.holds Tryd.pinned (OpenSpec.ofChange fieldPowersSpec)

/-- ITS FALSE NEIGHBOUR: 'it returns false'. Refute it at one input. -/
def fieldPowersWrong : ChangeSpec := { name := "fieldPowers", fn := fun _ => fun
  | [d1, d2] => { results := [.lit (.bool false)], args := [d1, d2] }
  | _ => none }
def FieldPowersWrongFalsely : Prop := fieldPowersRow.holds Tryd.pinned (OpenSpec.ofChange fieldPowersWrong)

/-- 'ledgerlaw02.FieldSymbols': WHATEVER THE INPUT: true; the input reads as it did. -/
def fieldSymbolsSpec : ChangeSpec := { name := "fieldSymbols", fn := fun _ => fun
  | [d1, d2] => { results := [.lit (.bool true)], args := [d1, d2] }
  | _ => none }
def fieldSymbolsRow : OpenClaim := { program := "ytfnbodpbdfeiiaadoor", sum := "f98867b005e6fbae8df666a10d4f2b4fdc808ba5153642aa5c1a9e18c32d588c", func := "ledger/ledgerlaw02.FieldSymbols", spec := "fieldSymbols", inPlace := ["math/bits.Add64", "math/bits.Sub64"], named := ["ledger/field.one", "ledger/field.powers"], apart := false, laid := [("ledger/field.one", laid_ledger_field_one), ("ledger/field.powers", laid_ledger_field_powers)] }
def FieldSymbolsSaid : Prop := fieldSymbolsRow.holds Tryd.pinned (OpenSpec.ofChange fieldSymbolsSpec)

/-- ITS FALSE NEIGHBOUR: 'it returns false'. Refute it at one input. -/
def fieldSymbolsWrong : ChangeSpec := { name := "fieldSymbols", fn := fun _ => fun
  | [d1, d2] => { results := [.lit (.bool false)], args := [d1, d2] }
  | _ => none }
def FieldSymbolsWrongFalsely : Prop := fieldSymbolsRow.holds Tryd.pinned (OpenSpec.ofChange fieldSymbolsWrong)

/-- 'ledgerlaw02.FieldBatches': WHATEVER THE INPUT: true; the input reads as it did. -/
def fieldBatchesSpec : ChangeSpec := { name := "fieldBatches", fn := fun _ => fun
  | [d] => { results := [.lit (.bool true)], args := [d] }
  | _ => none }
def fieldBatchesRow : OpenClaim := { program := "ytfnbodpbdfeiiaadoor", sum := "f98867b005e6fbae8df666a10d4f2b4fdc808ba5153642aa5c1a9e18c32d588c", func := "ledger/ledgerlaw02.FieldBatches", spec := "fieldBatches", inPlace := ["math/bits.Add64"], named := ["ledger/field.one", "ledger/field.powers"], apart := false, laid := [("ledger/field.one", laid_ledger_field_one), ("ledger/field.powers", laid_ledger_field_powers)] }
def FieldBatchesSaid : Prop := fieldBatchesRow.holds Tryd.pinned (OpenSpec.ofChange fieldBatchesSpec)

/-- ITS FALSE NEIGHBOUR: 'it returns false'. Refute it at one input. -/
def fieldBatchesWrong : ChangeSpec := { name := "fieldBatches", fn := fun _ => fun
  | [d] => { results := [.lit (.bool false)], args := [d] }
  | _ => none }
def FieldBatchesWrongFalsely : Prop := fieldBatchesRow.holds Tryd.pinned (OpenSpec.ofChange fieldBatchesWrong)

/-- 'ledgerlaw02.FieldInverts': WHATEVER THE INPUT: true; the input reads as it did. -/
def fieldInvertsSpec : ChangeSpec := { name := "fieldInverts", fn := fun _ => fun
  | [d1, d2] => { results := [.lit (.bool true)], args := [d1, d2] }
  | _ => none }
def fieldInvertsRow : OpenClaim := { program := "ytfnbodpbdfeiiaadoor", sum := "f98867b005e6fbae8df666a10d4f2b4fdc808ba5153642aa5c1a9e18c32d588c", func := "ledger/ledgerlaw02.FieldInverts", spec := "fieldInverts", inPlace := ["math/bits.Add64"], named := ["ledger/field.powers"], apart := false, laid := [("ledger/field.powers", laid_ledger_field_powers)] }
def FieldInvertsSaid : Prop := fieldInvertsRow.holds Tryd.pinned (OpenSpec.ofChange fieldInvertsSpec)

/-- ITS FALSE NEIGHBOUR: 'it returns false'. Refute it at one input. -/
def fieldInvertsWrong : ChangeSpec := { name := "fieldInverts", fn := fun _ => fun
  | [d1, d2] => { results := [.lit (.bool false)], args := [d1, d2] }
  | _ => none }
def FieldInvertsWrongFalsely : Prop := fieldInvertsRow.holds Tryd.pinned (OpenSpec.ofChange fieldInvertsWrong)

/-- 'ledgerlaw02.FieldFermat': WHATEVER THE INPUT: true; the input reads as it did. -/
def fieldFermatSpec : ChangeSpec := { name := "fieldFermat", fn := fun _ => fun
  | [d] => { results := [.lit (.bool true)], args := [d] }
  | _ => none }
def fieldFermatRow : OpenClaim := { program := "ytfnbodpbdfeiiaadoor", sum := "f98867b005e6fbae8df666a10d4f2b4fdc808ba5153642aa5c1a9e18c32d588c", func := "ledger/ledgerlaw02.FieldFermat", spec := "fieldFermat", inPlace := ["math/bits.Add64", "math/bits.Sub64"], named := ["ledger/field.one", "ledger/field.powers"], apart := false, laid := [("ledger/field.one", laid_ledger_field_one), ("ledger/field.powers", laid_ledger_field_powers)] }
def FieldFermatSaid : Prop := fieldFermatRow.holds Tryd.pinned (OpenSpec.ofChange fieldFermatSpec)

/-- ITS FALSE NEIGHBOUR: 'it returns false'. Refute it at one input. -/
def fieldFermatWrong : ChangeSpec := { name := "fieldFermat", fn := fun _ => fun
  | [d] => { results := [.lit (.bool false)], args := [d] }
  | _ => none }
def FieldFermatWrongFalsely : Prop := fieldFermatRow.holds Tryd.pinned (OpenSpec.ofChange fieldFermatWrong)

/-- 'ledgerlaw02.FieldRoots': WHATEVER THE INPUT: true; the input reads as it did. -/
def fieldRootsSpec : ChangeSpec := { name := "fieldRoots", fn := fun _ => fun
  | [d1, d2] => { results := [.lit (.bool true)], args := [d1, d2] }
  | _ => none }
def fieldRootsRow : OpenClaim := { program := "ytfnbodpbdfeiiaadoor", sum := "f98867b005e6fbae8df666a10d4f2b4fdc808ba5153642aa5c1a9e18c32d588c", func := "ledger/ledgerlaw02.FieldRoots", spec := "fieldRoots", inPlace := ["math/bits.Add64", "math/bits.Sub64"], named := ["ledger/field.rootOfMinusOne", "ledger/field.powers", "ledger/field.one"], apart := false, laid := [("ledger/field.one", laid_ledger_field_one), ("ledger/field.rootOfMinusOne", laid_ledger_field_rootOfMinusOne), ("ledger/field.powers", laid_ledger_field_powers)] }
def FieldRootsSaid : Prop := fieldRootsRow.holds Tryd.pinned (OpenSpec.ofChange fieldRootsSpec)

/-- ITS FALSE NEIGHBOUR: 'it returns false'. Refute it at one input. -/
def fieldRootsWrong : ChangeSpec := { name := "fieldRoots", fn := fun _ => fun
  | [d1, d2] => { results := [.lit (.bool false)], args := [d1, d2] }
  | _ => none }
def FieldRootsWrongFalsely : Prop := fieldRootsRow.holds Tryd.pinned (OpenSpec.ofChange fieldRootsWrong)

/- THE SECOND FORM. 'bulk': how many values and letters a reading holds, each counted each time it is reached (what is shared counts as often as it is met; a slice's spare places count too). A statement '..UptoSaid' is the law's where the arguments, and the package variables that the reading takes, are together of bulk at most 1048576: NARROWER than '..Said'. Prove '..Said' where nothing that the law and all that it calls make is longer than what came in: it says more and counts as full. Else prove '..UptoSaid'. A law counts once. -/
mutual
def uptoBulk {H : Type} : DataW H → Nat
  | .lit (.string bytes) => bytes.length + 1
  | .lit _ => 1
  | .nil => 1
  | .ptr d => uptoBulk d + 1
  | .slice elems spare => uptoBulkAll elems + uptoBulkAll spare + 1
  | .agg parts => uptoBulkAll parts + 1
  | .iface _ d => uptoBulk d + 1
  | .map entries => uptoBulkEntries entries + 1
  | .held _ => 1
def uptoBulkAll {H : Type} : List (DataW H) → Nat
  | [] => 0
  | d :: r => uptoBulk d + uptoBulkAll r
def uptoBulkEntries {H : Type} : List (Lit × DataW H) → Nat
  | [] => 0
  | x :: r => uptoBulkEntry x + uptoBulkEntries r
def uptoBulkEntry {H : Type} : Lit × DataW H → Nat
  | (.string bytes, d) => bytes.length + uptoBulk d + 1
  | (_, d) => uptoBulk d + 1
 end
def uptoSmall : (H : Type) → List (DataW H) → Bool := fun _ ds => decide (uptoBulkAll ds ≤ 1048576)
def OpenSpec.upto (s : _root_.Go.ChangeSpec) : _root_.Go.OpenSpec := { _root_.Go.OpenSpec.ofChange s with cond := some uptoSmall }

/-- 'ledgerlaw02.FieldPowers', WHERE WHAT IT READS IS OF BULK AT MOST 1048576: true; the input reads as it did. -/
def fieldPowersUptoRow : OpenClaim := { program := "ytfnbodpbdfeiiaadoor", sum := "f98867b005e6fbae8df666a10d4f2b4fdc808ba5153642aa5c1a9e18c32d588c", func := "ledger/ledgerlaw02.FieldPowers", spec := "fieldPowers", inPlace := ["math/bits.Add64"], named := ["ledger/field.one"], apart := false, laid := [("ledger/field.one", laid_ledger_field_one)], narrowed := true }
def FieldPowersUptoSaid : Prop := fieldPowersUptoRow.holds Tryd.pinned (OpenSpec.upto fieldPowersSpec)

/-- 'ledgerlaw02.FieldSymbols', WHERE WHAT IT READS IS OF BULK AT MOST 1048576: true; the input reads as it did. -/
def fieldSymbolsUptoRow : OpenClaim := { program := "ytfnbodpbdfeiiaadoor", sum := "f98867b005e6fbae8df666a10d4f2b4fdc808ba5153642aa5c1a9e18c32d588c", func := "ledger/ledgerlaw02.FieldSymbols", spec := "fieldSymbols", inPlace := ["math/bits.Add64", "math/bits.Sub64"], named := ["ledger/field.one", "ledger/field.powers"], apart := false, laid := [("ledger/field.one", laid_ledger_field_one), ("ledger/field.powers", laid_ledger_field_powers)], narrowed := true }
def FieldSymbolsUptoSaid : Prop := fieldSymbolsUptoRow.holds Tryd.pinned (OpenSpec.upto fieldSymbolsSpec)

/-- 'ledgerlaw02.FieldBatches', WHERE WHAT IT READS IS OF BULK AT MOST 1048576: true; the input reads as it did. -/
def fieldBatchesUptoRow : OpenClaim := { program := "ytfnbodpbdfeiiaadoor", sum := "f98867b005e6fbae8df666a10d4f2b4fdc808ba5153642aa5c1a9e18c32d588c", func := "ledger/ledgerlaw02.FieldBatches", spec := "fieldBatches", inPlace := ["math/bits.Add64"], named := ["ledger/field.one", "ledger/field.powers"], apart := false, laid := [("ledger/field.one", laid_ledger_field_one), ("ledger/field.powers", laid_ledger_field_powers)], narrowed := true }
def FieldBatchesUptoSaid : Prop := fieldBatchesUptoRow.holds Tryd.pinned (OpenSpec.upto fieldBatchesSpec)

/-- 'ledgerlaw02.FieldInverts', WHERE WHAT IT READS IS OF BULK AT MOST 1048576: true; the input reads as it did. -/
def fieldInvertsUptoRow : OpenClaim := { program := "ytfnbodpbdfeiiaadoor", sum := "f98867b005e6fbae8df666a10d4f2b4fdc808ba5153642aa5c1a9e18c32d588c", func := "ledger/ledgerlaw02.FieldInverts", spec := "fieldInverts", inPlace := ["math/bits.Add64"], named := ["ledger/field.powers"], apart := false, laid := [("ledger/field.powers", laid_ledger_field_powers)], narrowed := true }
def FieldInvertsUptoSaid : Prop := fieldInvertsUptoRow.holds Tryd.pinned (OpenSpec.upto fieldInvertsSpec)

/-- 'ledgerlaw02.FieldFermat', WHERE WHAT IT READS IS OF BULK AT MOST 1048576: true; the input reads as it did. -/
def fieldFermatUptoRow : OpenClaim := { program := "ytfnbodpbdfeiiaadoor", sum := "f98867b005e6fbae8df666a10d4f2b4fdc808ba5153642aa5c1a9e18c32d588c", func := "ledger/ledgerlaw02.FieldFermat", spec := "fieldFermat", inPlace := ["math/bits.Add64", "math/bits.Sub64"], named := ["ledger/field.one", "ledger/field.powers"], apart := false, laid := [("ledger/field.one", laid_ledger_field_one), ("ledger/field.powers", laid_ledger_field_powers)], narrowed := true }
def FieldFermatUptoSaid : Prop := fieldFermatUptoRow.holds Tryd.pinned (OpenSpec.upto fieldFermatSpec)

/-- 'ledgerlaw02.FieldRoots', WHERE WHAT IT READS IS OF BULK AT MOST 1048576: true; the input reads as it did. -/
def fieldRootsUptoRow : OpenClaim := { program := "ytfnbodpbdfeiiaadoor", sum := "f98867b005e6fbae8df666a10d4f2b4fdc808ba5153642aa5c1a9e18c32d588c", func := "ledger/ledgerlaw02.FieldRoots", spec := "fieldRoots", inPlace := ["math/bits.Add64", "math/bits.Sub64"], named := ["ledger/field.rootOfMinusOne", "ledger/field.powers", "ledger/field.one"], apart := false, laid := [("ledger/field.one", laid_ledger_field_one), ("ledger/field.rootOfMinusOne", laid_ledger_field_rootOfMinusOne), ("ledger/field.powers", laid_ledger_field_powers)], narrowed := true }
def FieldRootsUptoSaid : Prop := fieldRootsUptoRow.holds Tryd.pinned (OpenSpec.upto fieldRootsSpec)

end Rows
end Go.Proofs.YtfnbodpbdfeiiaaDoor
