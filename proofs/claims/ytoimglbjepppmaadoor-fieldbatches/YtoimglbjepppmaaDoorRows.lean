/-
  NARROWER THAN 'FOR EVERY INPUT', by the rows' own cells (each row's printed sentence says how): FieldBatches: laid · FieldRoots: laid · PointFirst: laid · PointForms: laid · PointDecodes: laid · PointPairs: laid.
  DERIVED. THE GIVEN ROWS OF THIS SEAT. 6 by the template 'for every input the law returns true; each argument reads behind the call as it read before'; 0 by the template 'total and deterministic' (their statements: YtoimglbjepppmaaDoorTotals.lean).
  GIVEN WITH THE SEED: the statements are not yours to turn. If you find one false, say at which input.
  Laid BY PROGRAM, IN A SANDBOX (cutbox-rows.mjs): the forced cells as the released guide's own fill.sh prints them over the translation a8833b892e6d89c6… (all of the seat's roots in one cut). By AI agents, Wed Nov 11 2026. No macro, syntax, notation, axiom, sorry.
-/
import Derived.Test.YtoimglbjepppmaaDoorChecked
import GoSem.Claim
import GoSem.ClaimJoined
import GoSem.ClaimMapViews
import Derived.JoinedTies
import Derived.KernelRfl
namespace Go.Proofs.YtoimglbjepppmaaDoor
/- THE CELL 'sum', in the pinned program and in every row, IS THE sha256 OF THE DUMP (.gsa) THAT YtoimglbjepppmaaDoorProg.lean LOADS. Nothing in Lean hashes anything: it is a label: what it is worth is what the hold of that sum in a sandbox is worth. -/
noncomputable def Tryd.pinned : Pinned := { name := "ytoimglbjepppmaadoor", sum := "a8833b892e6d89c6ddf072ab8e2e0654c4070891800929d62785b11b79d0044e", checked := Tryd.checked }
namespace Rows
def none {H : Type} : Left H := { results := [], args := [] }

/- WHAT THE LISTED PACKAGE-LEVEL VARIABLES READ AS WHEN THE CALL BEGINS. Each datum BY PROGRAM (the guide's laid-datum.mjs) off the statement by which the dump's own 'gosem.cut.vars' lays the variable. In a bare row this is a premise. The card (YtoimglbjepppmaaDoorCards.lean) ties it to the program's text. -/
def laid_ledger_field_one {H : Type} : DataW H := .agg [.lit (.int .u64 1), .lit (.int .u64 0), .lit (.int .u64 0), .lit (.int .u64 0)]
def laid_ledger_field_powers {H : Type} : DataW H := .agg [.agg [.lit (.int .i64 1), .lit (.int .i64 0)], .agg [.lit (.int .i64 2), .lit (.int .i64 1)], .agg [.lit (.int .i64 1), .lit (.int .i64 0)], .agg [.lit (.int .i64 5), .lit (.int .i64 3)], .agg [.lit (.int .i64 10), .lit (.int .i64 4)], .agg [.lit (.int .i64 20), .lit (.int .i64 5)], .agg [.lit (.int .i64 10), .lit (.int .i64 4)], .agg [.lit (.int .i64 50), .lit (.int .i64 7)], .agg [.lit (.int .i64 100), .lit (.int .i64 8)], .agg [.lit (.int .i64 50), .lit (.int .i64 7)]]
def laid_ledger_field_rootOfMinusOne {H : Type} : DataW H := .agg [.lit (.int .u64 14190309331451158704), .lit (.int .u64 3405592160176694392), .lit (.int .u64 3120150775007532967), .lit (.int .u64 3135389899092516619)]
def laid_ledger_ledgerref04_dBytes {H : Type} : DataW H := .agg [.lit (.int .u8 163), .lit (.int .u8 120), .lit (.int .u8 89), .lit (.int .u8 19), .lit (.int .u8 202), .lit (.int .u8 77), .lit (.int .u8 235), .lit (.int .u8 117), .lit (.int .u8 171), .lit (.int .u8 216), .lit (.int .u8 65), .lit (.int .u8 65), .lit (.int .u8 77), .lit (.int .u8 10), .lit (.int .u8 112), .lit (.int .u8 0), .lit (.int .u8 152), .lit (.int .u8 232), .lit (.int .u8 121), .lit (.int .u8 119), .lit (.int .u8 121), .lit (.int .u8 64), .lit (.int .u8 199), .lit (.int .u8 140), .lit (.int .u8 115), .lit (.int .u8 254), .lit (.int .u8 111), .lit (.int .u8 43), .lit (.int .u8 238), .lit (.int .u8 108), .lit (.int .u8 3), .lit (.int .u8 82)]
def laid_ledger_point_one {H : Type} : DataW H := .agg [.lit (.int .u8 1), .lit (.int .u8 0), .lit (.int .u8 0), .lit (.int .u8 0), .lit (.int .u8 0), .lit (.int .u8 0), .lit (.int .u8 0), .lit (.int .u8 0), .lit (.int .u8 0), .lit (.int .u8 0), .lit (.int .u8 0), .lit (.int .u8 0), .lit (.int .u8 0), .lit (.int .u8 0), .lit (.int .u8 0), .lit (.int .u8 0), .lit (.int .u8 0), .lit (.int .u8 0), .lit (.int .u8 0), .lit (.int .u8 0), .lit (.int .u8 0), .lit (.int .u8 0), .lit (.int .u8 0), .lit (.int .u8 0), .lit (.int .u8 0), .lit (.int .u8 0), .lit (.int .u8 0), .lit (.int .u8 0), .lit (.int .u8 0), .lit (.int .u8 0), .lit (.int .u8 0), .lit (.int .u8 0)]
def laid_ledger_point_d {H : Type} : DataW H := .agg [.lit (.int .u8 163), .lit (.int .u8 120), .lit (.int .u8 89), .lit (.int .u8 19), .lit (.int .u8 202), .lit (.int .u8 77), .lit (.int .u8 235), .lit (.int .u8 117), .lit (.int .u8 171), .lit (.int .u8 216), .lit (.int .u8 65), .lit (.int .u8 65), .lit (.int .u8 77), .lit (.int .u8 10), .lit (.int .u8 112), .lit (.int .u8 0), .lit (.int .u8 152), .lit (.int .u8 232), .lit (.int .u8 121), .lit (.int .u8 119), .lit (.int .u8 121), .lit (.int .u8 64), .lit (.int .u8 199), .lit (.int .u8 140), .lit (.int .u8 115), .lit (.int .u8 254), .lit (.int .u8 111), .lit (.int .u8 43), .lit (.int .u8 238), .lit (.int .u8 108), .lit (.int .u8 3), .lit (.int .u8 82)]

/-- 'ledgerlaw02.FieldBatches': WHATEVER THE INPUT: true; the input reads as it did. -/
def fieldBatchesSpec : ChangeSpec := { name := "fieldBatches", fn := fun _ => fun
  | [d] => { results := [.lit (.bool true)], args := [d] }
  | _ => none }
def fieldBatchesRow : OpenClaim := { program := "ytoimglbjepppmaadoor", sum := "a8833b892e6d89c6ddf072ab8e2e0654c4070891800929d62785b11b79d0044e", func := "ledger/ledgerlaw02.FieldBatches", spec := "fieldBatches", inPlace := ["math/bits.Add64"], named := ["ledger/field.one", "ledger/field.powers"], apart := false, laid := [("ledger/field.one", laid_ledger_field_one), ("ledger/field.powers", laid_ledger_field_powers)] }
def FieldBatchesSaid : Prop := fieldBatchesRow.holds Tryd.pinned (OpenSpec.ofChange fieldBatchesSpec)

/-- ITS FALSE NEIGHBOUR: 'it returns false'. Refute it at one input. -/
def fieldBatchesWrong : ChangeSpec := { name := "fieldBatches", fn := fun _ => fun
  | [d] => { results := [.lit (.bool false)], args := [d] }
  | _ => none }
def FieldBatchesWrongFalsely : Prop := fieldBatchesRow.holds Tryd.pinned (OpenSpec.ofChange fieldBatchesWrong)

/-- 'ledgerlaw02.FieldRoots': WHATEVER THE INPUT: true; the input reads as it did. -/
def fieldRootsSpec : ChangeSpec := { name := "fieldRoots", fn := fun _ => fun
  | [d1, d2] => { results := [.lit (.bool true)], args := [d1, d2] }
  | _ => none }
def fieldRootsRow : OpenClaim := { program := "ytoimglbjepppmaadoor", sum := "a8833b892e6d89c6ddf072ab8e2e0654c4070891800929d62785b11b79d0044e", func := "ledger/ledgerlaw02.FieldRoots", spec := "fieldRoots", inPlace := ["math/bits.Add64", "math/bits.Sub64"], named := ["ledger/field.rootOfMinusOne", "ledger/field.powers", "ledger/field.one"], apart := false, laid := [("ledger/field.one", laid_ledger_field_one), ("ledger/field.rootOfMinusOne", laid_ledger_field_rootOfMinusOne), ("ledger/field.powers", laid_ledger_field_powers)] }
def FieldRootsSaid : Prop := fieldRootsRow.holds Tryd.pinned (OpenSpec.ofChange fieldRootsSpec)

/-- ITS FALSE NEIGHBOUR: 'it returns false'. Refute it at one input. -/
def fieldRootsWrong : ChangeSpec := { name := "fieldRoots", fn := fun _ => fun
  | [d1, d2] => { results := [.lit (.bool false)], args := [d1, d2] }
  | _ => none }
def FieldRootsWrongFalsely : Prop := fieldRootsRow.holds Tryd.pinned (OpenSpec.ofChange fieldRootsWrong)

/-- 'ledgerlaw04.PointFirst': WHATEVER THE INPUT: true; the input reads as it did. -/
def pointFirstSpec : ChangeSpec := { name := "pointFirst", fn := fun _ => fun
  | [] => { results := [.lit (.bool true)], args := [] }
  | _ => none }
def pointFirstRow : OpenClaim := { program := "ytoimglbjepppmaadoor", sum := "a8833b892e6d89c6ddf072ab8e2e0654c4070891800929d62785b11b79d0044e", func := "ledger/ledgerlaw04.PointFirst", spec := "pointFirst", named := ["ledger/ledgerref04.dBytes"], apart := false, laid := [("ledger/ledgerref04.dBytes", laid_ledger_ledgerref04_dBytes)] }
def PointFirstSaid : Prop := pointFirstRow.holds Tryd.pinned (OpenSpec.ofChange pointFirstSpec)

/-- ITS FALSE NEIGHBOUR: 'it returns false'. Refute it at one input. -/
def pointFirstWrong : ChangeSpec := { name := "pointFirst", fn := fun _ => fun
  | [] => { results := [.lit (.bool false)], args := [] }
  | _ => none }
def PointFirstWrongFalsely : Prop := pointFirstRow.holds Tryd.pinned (OpenSpec.ofChange pointFirstWrong)

/-- 'ledgerlaw04.PointForms': WHATEVER THE INPUT: true; the input reads as it did. -/
def pointFormsSpec : ChangeSpec := { name := "pointForms", fn := fun _ => fun
  | [d] => { results := [.lit (.bool true)], args := [d] }
  | _ => none }
def pointFormsRow : OpenClaim := { program := "ytoimglbjepppmaadoor", sum := "a8833b892e6d89c6ddf072ab8e2e0654c4070891800929d62785b11b79d0044e", func := "ledger/ledgerlaw04.PointForms", spec := "pointForms", inPlace := ["math/bits.Add64", "math/bits.Sub64"], named := ["ledger/point.one", "ledger/point.d", "ledger/field.powers", "ledger/field.rootOfMinusOne", "ledger/field.one"], apart := false, laid := [("ledger/field.one", laid_ledger_field_one), ("ledger/field.rootOfMinusOne", laid_ledger_field_rootOfMinusOne), ("ledger/field.powers", laid_ledger_field_powers), ("ledger/point.one", laid_ledger_point_one), ("ledger/point.d", laid_ledger_point_d)] }
def PointFormsSaid : Prop := pointFormsRow.holds Tryd.pinned (OpenSpec.ofChange pointFormsSpec)

/-- ITS FALSE NEIGHBOUR: 'it returns false'. Refute it at one input. -/
def pointFormsWrong : ChangeSpec := { name := "pointForms", fn := fun _ => fun
  | [d] => { results := [.lit (.bool false)], args := [d] }
  | _ => none }
def PointFormsWrongFalsely : Prop := pointFormsRow.holds Tryd.pinned (OpenSpec.ofChange pointFormsWrong)

/-- 'ledgerlaw04.PointDecodes': WHATEVER THE INPUT: true; the input reads as it did. -/
def pointDecodesSpec : ChangeSpec := { name := "pointDecodes", fn := fun _ => fun
  | [d] => { results := [.lit (.bool true)], args := [d] }
  | _ => none }
def pointDecodesRow : OpenClaim := { program := "ytoimglbjepppmaadoor", sum := "a8833b892e6d89c6ddf072ab8e2e0654c4070891800929d62785b11b79d0044e", func := "ledger/ledgerlaw04.PointDecodes", spec := "pointDecodes", inPlace := ["math/bits.Add64", "math/bits.Sub64"], named := ["ledger/point.one", "ledger/point.d", "ledger/field.rootOfMinusOne", "ledger/field.powers", "ledger/ledgerref04.dBytes"], apart := false, laid := [("ledger/ledgerref04.dBytes", laid_ledger_ledgerref04_dBytes), ("ledger/field.rootOfMinusOne", laid_ledger_field_rootOfMinusOne), ("ledger/field.powers", laid_ledger_field_powers), ("ledger/point.one", laid_ledger_point_one), ("ledger/point.d", laid_ledger_point_d)] }
def PointDecodesSaid : Prop := pointDecodesRow.holds Tryd.pinned (OpenSpec.ofChange pointDecodesSpec)

/-- ITS FALSE NEIGHBOUR: 'it returns false'. Refute it at one input. -/
def pointDecodesWrong : ChangeSpec := { name := "pointDecodes", fn := fun _ => fun
  | [d] => { results := [.lit (.bool false)], args := [d] }
  | _ => none }
def PointDecodesWrongFalsely : Prop := pointDecodesRow.holds Tryd.pinned (OpenSpec.ofChange pointDecodesWrong)

/-- 'ledgerlaw04.PointPairs': WHATEVER THE INPUT: true; the input reads as it did. -/
def pointPairsSpec : ChangeSpec := { name := "pointPairs", fn := fun _ => fun
  | [d1, d2] => { results := [.lit (.bool true)], args := [d1, d2] }
  | _ => none }
def pointPairsRow : OpenClaim := { program := "ytoimglbjepppmaadoor", sum := "a8833b892e6d89c6ddf072ab8e2e0654c4070891800929d62785b11b79d0044e", func := "ledger/ledgerlaw04.PointPairs", spec := "pointPairs", inPlace := ["math/bits.Add64", "math/bits.Sub64"], named := ["ledger/point.one", "ledger/point.d", "ledger/ledgerref04.dBytes", "ledger/field.powers"], apart := false, laid := [("ledger/ledgerref04.dBytes", laid_ledger_ledgerref04_dBytes), ("ledger/field.powers", laid_ledger_field_powers), ("ledger/point.one", laid_ledger_point_one), ("ledger/point.d", laid_ledger_point_d)] }
def PointPairsSaid : Prop := pointPairsRow.holds Tryd.pinned (OpenSpec.ofChange pointPairsSpec)

/-- ITS FALSE NEIGHBOUR: 'it returns false'. Refute it at one input. -/
def pointPairsWrong : ChangeSpec := { name := "pointPairs", fn := fun _ => fun
  | [d1, d2] => { results := [.lit (.bool false)], args := [d1, d2] }
  | _ => none }
def PointPairsWrongFalsely : Prop := pointPairsRow.holds Tryd.pinned (OpenSpec.ofChange pointPairsWrong)

/- THE SECOND FORM. 'bulk': how many values and letters a reading holds, each counted each time it is reached (what is shared counts as often as it is met; a slice's spare places count too). A statement '..UptoSaid' is the law's where the arguments, and the package variables that the reading takes, are together of bulk at most 1048576: NARROWER than '..Said'. Prove '..Said' where nothing that the law and all that it calls make is longer than what came in: it says more and counts as full. Else prove '..UptoSaid'. A law counts once. -/
mutual
def uptoBulk {H : Type} : DataW H → Nat
  | .lit (.string bytes) => bytes.length + 1
  | .lit _ => 1
  | .nil => 1
  | .ptr d => uptoBulk d + 1
  | .slice elems spare => uptoBulkAll elems + uptoBulkAll spare + 1
  | .agg parts => uptoBulkAll parts + 1
  | .iface _ d => uptoBulk d + 1
  | .map entries => uptoBulkEntries entries + 1
  | .held _ => 1
def uptoBulkAll {H : Type} : List (DataW H) → Nat
  | [] => 0
  | d :: r => uptoBulk d + uptoBulkAll r
def uptoBulkEntries {H : Type} : List (Lit × DataW H) → Nat
  | [] => 0
  | x :: r => uptoBulkEntry x + uptoBulkEntries r
def uptoBulkEntry {H : Type} : Lit × DataW H → Nat
  | (.string bytes, d) => bytes.length + uptoBulk d + 1
  | (_, d) => uptoBulk d + 1
 end
def uptoSmall : (H : Type) → List (DataW H) → Bool := fun _ ds => decide (uptoBulkAll ds ≤ 1048576)
def OpenSpec.upto (s : _root_.Go.ChangeSpec) : _root_.Go.OpenSpec := { _root_.Go.OpenSpec.ofChange s with cond := some uptoSmall }

/-- 'ledgerlaw02.FieldBatches', WHERE WHAT IT READS IS OF BULK AT MOST 1048576: true; the input reads as it did. -/
def fieldBatchesUptoRow : OpenClaim := { program := "ytoimglbjepppmaadoor", sum := "a8833b892e6d89c6ddf072ab8e2e0654c4070891800929d62785b11b79d0044e", func := "ledger/ledgerlaw02.FieldBatches", spec := "fieldBatches", inPlace := ["math/bits.Add64"], named := ["ledger/field.one", "ledger/field.powers"], apart := false, laid := [("ledger/field.one", laid_ledger_field_one), ("ledger/field.powers", laid_ledger_field_powers)], narrowed := true }
def FieldBatchesUptoSaid : Prop := fieldBatchesUptoRow.holds Tryd.pinned (OpenSpec.upto fieldBatchesSpec)

/-- 'ledgerlaw02.FieldRoots', WHERE WHAT IT READS IS OF BULK AT MOST 1048576: true; the input reads as it did. -/
def fieldRootsUptoRow : OpenClaim := { program := "ytoimglbjepppmaadoor", sum := "a8833b892e6d89c6ddf072ab8e2e0654c4070891800929d62785b11b79d0044e", func := "ledger/ledgerlaw02.FieldRoots", spec := "fieldRoots", inPlace := ["math/bits.Add64", "math/bits.Sub64"], named := ["ledger/field.rootOfMinusOne", "ledger/field.powers", "ledger/field.one"], apart := false, laid := [("ledger/field.one", laid_ledger_field_one), ("ledger/field.rootOfMinusOne", laid_ledger_field_rootOfMinusOne), ("ledger/field.powers", laid_ledger_field_powers)], narrowed := true }
def FieldRootsUptoSaid : Prop := fieldRootsUptoRow.holds Tryd.pinned (OpenSpec.upto fieldRootsSpec)

/-- 'ledgerlaw04.PointFirst', WHERE WHAT IT READS IS OF BULK AT MOST 1048576: true; the input reads as it did. -/
def pointFirstUptoRow : OpenClaim := { program := "ytoimglbjepppmaadoor", sum := "a8833b892e6d89c6ddf072ab8e2e0654c4070891800929d62785b11b79d0044e", func := "ledger/ledgerlaw04.PointFirst", spec := "pointFirst", named := ["ledger/ledgerref04.dBytes"], apart := false, laid := [("ledger/ledgerref04.dBytes", laid_ledger_ledgerref04_dBytes)], narrowed := true }
def PointFirstUptoSaid : Prop := pointFirstUptoRow.holds Tryd.pinned (OpenSpec.upto pointFirstSpec)

/-- 'ledgerlaw04.PointForms', WHERE WHAT IT READS IS OF BULK AT MOST 1048576: true; the input reads as it did. -/
def pointFormsUptoRow : OpenClaim := { program := "ytoimglbjepppmaadoor", sum := "a8833b892e6d89c6ddf072ab8e2e0654c4070891800929d62785b11b79d0044e", func := "ledger/ledgerlaw04.PointForms", spec := "pointForms", inPlace := ["math/bits.Add64", "math/bits.Sub64"], named := ["ledger/point.one", "ledger/point.d", "ledger/field.powers", "ledger/field.rootOfMinusOne", "ledger/field.one"], apart := false, laid := [("ledger/field.one", laid_ledger_field_one), ("ledger/field.rootOfMinusOne", laid_ledger_field_rootOfMinusOne), ("ledger/field.powers", laid_ledger_field_powers), ("ledger/point.one", laid_ledger_point_one), ("ledger/point.d", laid_ledger_point_d)], narrowed := true }
def PointFormsUptoSaid : Prop := pointFormsUptoRow.holds Tryd.pinned (OpenSpec.upto pointFormsSpec)

/-- 'ledgerlaw04.PointDecodes', WHERE WHAT IT READS IS OF BULK AT MOST 1048576: true; the input reads as it did. -/
def pointDecodesUptoRow : OpenClaim := { program := "ytoimglbjepppmaadoor", sum := "a8833b892e6d89c6ddf072ab8e2e0654c4070891800929d62785b11b79d0044e", func := "ledger/ledgerlaw04.PointDecodes", spec := "pointDecodes", inPlace := ["math/bits.Add64", "math/bits.Sub64"], named := ["ledger/point.one", "ledger/point.d", "ledger/field.rootOfMinusOne", "ledger/field.powers", "ledger/ledgerref04.dBytes"], apart := false, laid := [("ledger/ledgerref04.dBytes", laid_ledger_ledgerref04_dBytes), ("ledger/field.rootOfMinusOne", laid_ledger_field_rootOfMinusOne), ("ledger/field.powers", laid_ledger_field_powers), ("ledger/point.one", laid_ledger_point_one), ("ledger/point.d", laid_ledger_point_d)], narrowed := true }
def PointDecodesUptoSaid : Prop := pointDecodesUptoRow.holds Tryd.pinned (OpenSpec.upto pointDecodesSpec)

/-- 'ledgerlaw04.PointPairs', WHERE WHAT IT READS IS OF BULK AT MOST 1048576: true; the input reads as it did. -/
def pointPairsUptoRow : OpenClaim := { program := "ytoimglbjepppmaadoor", sum := "a8833b892e6d89c6ddf072ab8e2e0654c4070891800929d62785b11b79d0044e", func := "ledger/ledgerlaw04.PointPairs", spec := "pointPairs", inPlace := ["math/bits.Add64", "math/bits.Sub64"], named := ["ledger/point.one", "ledger/point.d", "ledger/ledgerref04.dBytes", "ledger/field.powers"], apart := false, laid := [("ledger/ledgerref04.dBytes", laid_ledger_ledgerref04_dBytes), ("ledger/field.powers", laid_ledger_field_powers), ("ledger/point.one", laid_ledger_point_one), ("ledger/point.d", laid_ledger_point_d)], narrowed := true }
def PointPairsUptoSaid : Prop := pointPairsUptoRow.holds Tryd.pinned (OpenSpec.upto pointPairsSpec)

end Rows
end Go.Proofs.YtoimglbjepppmaaDoor
