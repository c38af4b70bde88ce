/-
  NARROWER THAN 'FOR EVERY INPUT', by the rows' own cells (each row's printed sentence says how): FieldBatches: laid · FieldRoots: laid · FieldProducts: laid · FieldPows: laid · FieldKeeps: laid · FieldRatios: laid · FieldAll: laid · PointForms: laid.
  DERIVED. THE GIVEN ROWS OF THIS SEAT. 8 by the template 'for every input the law returns true; each argument reads behind the call as it read before'; 0 by the template 'total and deterministic' (their statements: YtkegcilcapnpdaaDoorTotals.lean).
  GIVEN WITH THE SEED: the statements are not yours to turn. If you find one false, say at which input.
  Laid BY PROGRAM, IN A SANDBOX (cutbox-rows.mjs): the forced cells as the released guide's own fill.sh prints them over the translation ba148757514b1e99… (all of the seat's roots in one cut). By AI agents, Wed Nov 11 2026. No macro, syntax, notation, axiom, sorry.
-/
import Derived.Test.YtkegcilcapnpdaaDoorChecked
import GoSem.Claim
import GoSem.ClaimJoined
import GoSem.ClaimMapViews
import Derived.JoinedTies
import Derived.KernelRfl
namespace Go.Proofs.YtkegcilcapnpdaaDoor
/- THE CELL 'sum', in the pinned program and in every row, IS THE sha256 OF THE DUMP (.gsa) THAT YtkegcilcapnpdaaDoorProg.lean LOADS. Nothing in Lean hashes anything: it is a label: what it is worth is what the hold of that sum in a sandbox is worth. -/
noncomputable def Tryd.pinned : Pinned := { name := "ytkegcilcapnpdaadoor", sum := "ba148757514b1e9972c39a7fd9534bfb3b7200fdc06a364a2c0e94e8cfbd5624", checked := Tryd.checked }
namespace Rows
def none {H : Type} : Left H := { results := [], args := [] }

/- WHAT THE LISTED PACKAGE-LEVEL VARIABLES READ AS WHEN THE CALL BEGINS. Each datum BY PROGRAM (the guide's laid-datum.mjs) off the statement by which the dump's own 'gosem.cut.vars' lays the variable. In a bare row this is a premise. The card (YtkegcilcapnpdaaDoorCards.lean) ties it to the program's text. -/
def laid_ledger_field_one {H : Type} : DataW H := .agg [.lit (.int .u64 1), .lit (.int .u64 0), .lit (.int .u64 0), .lit (.int .u64 0)]
def laid_ledger_field_powers {H : Type} : DataW H := .agg [.agg [.lit (.int .i64 1), .lit (.int .i64 0)], .agg [.lit (.int .i64 2), .lit (.int .i64 1)], .agg [.lit (.int .i64 1), .lit (.int .i64 0)], .agg [.lit (.int .i64 5), .lit (.int .i64 3)], .agg [.lit (.int .i64 10), .lit (.int .i64 4)], .agg [.lit (.int .i64 20), .lit (.int .i64 5)], .agg [.lit (.int .i64 10), .lit (.int .i64 4)], .agg [.lit (.int .i64 50), .lit (.int .i64 7)], .agg [.lit (.int .i64 100), .lit (.int .i64 8)], .agg [.lit (.int .i64 50), .lit (.int .i64 7)]]
def laid_ledger_field_rootOfMinusOne {H : Type} : DataW H := .agg [.lit (.int .u64 14190309331451158704), .lit (.int .u64 3405592160176694392), .lit (.int .u64 3120150775007532967), .lit (.int .u64 3135389899092516619)]
def laid_ledger_ledgerref02_prime {H : Type} : DataW H := .agg [.lit (.int .i64 65517), .lit (.int .i64 65535), .lit (.int .i64 65535), .lit (.int .i64 65535), .lit (.int .i64 65535), .lit (.int .i64 65535), .lit (.int .i64 65535), .lit (.int .i64 65535), .lit (.int .i64 65535), .lit (.int .i64 65535), .lit (.int .i64 65535), .lit (.int .i64 65535), .lit (.int .i64 65535), .lit (.int .i64 65535), .lit (.int .i64 65535), .lit (.int .i64 32767)]
def laid_ledger_point_one {H : Type} : DataW H := .agg [.lit (.int .u8 1), .lit (.int .u8 0), .lit (.int .u8 0), .lit (.int .u8 0), .lit (.int .u8 0), .lit (.int .u8 0), .lit (.int .u8 0), .lit (.int .u8 0), .lit (.int .u8 0), .lit (.int .u8 0), .lit (.int .u8 0), .lit (.int .u8 0), .lit (.int .u8 0), .lit (.int .u8 0), .lit (.int .u8 0), .lit (.int .u8 0), .lit (.int .u8 0), .lit (.int .u8 0), .lit (.int .u8 0), .lit (.int .u8 0), .lit (.int .u8 0), .lit (.int .u8 0), .lit (.int .u8 0), .lit (.int .u8 0), .lit (.int .u8 0), .lit (.int .u8 0), .lit (.int .u8 0), .lit (.int .u8 0), .lit (.int .u8 0), .lit (.int .u8 0), .lit (.int .u8 0), .lit (.int .u8 0)]
def laid_ledger_point_d {H : Type} : DataW H := .agg [.lit (.int .u8 163), .lit (.int .u8 120), .lit (.int .u8 89), .lit (.int .u8 19), .lit (.int .u8 202), .lit (.int .u8 77), .lit (.int .u8 235), .lit (.int .u8 117), .lit (.int .u8 171), .lit (.int .u8 216), .lit (.int .u8 65), .lit (.int .u8 65), .lit (.int .u8 77), .lit (.int .u8 10), .lit (.int .u8 112), .lit (.int .u8 0), .lit (.int .u8 152), .lit (.int .u8 232), .lit (.int .u8 121), .lit (.int .u8 119), .lit (.int .u8 121), .lit (.int .u8 64), .lit (.int .u8 199), .lit (.int .u8 140), .lit (.int .u8 115), .lit (.int .u8 254), .lit (.int .u8 111), .lit (.int .u8 43), .lit (.int .u8 238), .lit (.int .u8 108), .lit (.int .u8 3), .lit (.int .u8 82)]

/-- 'ledgerlaw02.FieldBatches': WHATEVER THE INPUT: true; the input reads as it did. -/
def fieldBatchesSpec : ChangeSpec := { name := "fieldBatches", fn := fun _ => fun
  | [d] => { results := [.lit (.bool true)], args := [d] }
  | _ => none }
def fieldBatchesRow : OpenClaim := { program := "ytkegcilcapnpdaadoor", sum := "ba148757514b1e9972c39a7fd9534bfb3b7200fdc06a364a2c0e94e8cfbd5624", func := "ledger/ledgerlaw02.FieldBatches", spec := "fieldBatches", inPlace := ["math/bits.Add64"], named := ["ledger/field.one", "ledger/field.powers"], apart := false, laid := [("ledger/field.one", laid_ledger_field_one), ("ledger/field.powers", laid_ledger_field_powers)] }
def FieldBatchesSaid : Prop := fieldBatchesRow.holds Tryd.pinned (OpenSpec.ofChange fieldBatchesSpec)

/-- ITS FALSE NEIGHBOUR: 'it returns false'. Refute it at one input. -/
def fieldBatchesWrong : ChangeSpec := { name := "fieldBatches", fn := fun _ => fun
  | [d] => { results := [.lit (.bool false)], args := [d] }
  | _ => none }
def FieldBatchesWrongFalsely : Prop := fieldBatchesRow.holds Tryd.pinned (OpenSpec.ofChange fieldBatchesWrong)

/-- 'ledgerlaw02.FieldRoots': WHATEVER THE INPUT: true; the input reads as it did. -/
def fieldRootsSpec : ChangeSpec := { name := "fieldRoots", fn := fun _ => fun
  | [d1, d2] => { results := [.lit (.bool true)], args := [d1, d2] }
  | _ => none }
def fieldRootsRow : OpenClaim := { program := "ytkegcilcapnpdaadoor", sum := "ba148757514b1e9972c39a7fd9534bfb3b7200fdc06a364a2c0e94e8cfbd5624", func := "ledger/ledgerlaw02.FieldRoots", spec := "fieldRoots", inPlace := ["math/bits.Add64", "math/bits.Sub64"], named := ["ledger/field.rootOfMinusOne", "ledger/field.powers", "ledger/field.one"], apart := false, laid := [("ledger/field.one", laid_ledger_field_one), ("ledger/field.rootOfMinusOne", laid_ledger_field_rootOfMinusOne), ("ledger/field.powers", laid_ledger_field_powers)] }
def FieldRootsSaid : Prop := fieldRootsRow.holds Tryd.pinned (OpenSpec.ofChange fieldRootsSpec)

/-- ITS FALSE NEIGHBOUR: 'it returns false'. Refute it at one input. -/
def fieldRootsWrong : ChangeSpec := { name := "fieldRoots", fn := fun _ => fun
  | [d1, d2] => { results := [.lit (.bool false)], args := [d1, d2] }
  | _ => none }
def FieldRootsWrongFalsely : Prop := fieldRootsRow.holds Tryd.pinned (OpenSpec.ofChange fieldRootsWrong)

/-- 'ledgerlaw02.FieldProducts': WHATEVER THE INPUT: true; the input reads as it did. -/
def fieldProductsSpec : ChangeSpec := { name := "fieldProducts", fn := fun _ => fun
  | [d1, d2] => { results := [.lit (.bool true)], args := [d1, d2] }
  | _ => none }
def fieldProductsRow : OpenClaim := { program := "ytkegcilcapnpdaadoor", sum := "ba148757514b1e9972c39a7fd9534bfb3b7200fdc06a364a2c0e94e8cfbd5624", func := "ledger/ledgerlaw02.FieldProducts", spec := "fieldProducts", inPlace := ["math/bits.Add64", "math/bits.Sub64"], named := ["ledger/ledgerref02.prime"], apart := false, laid := [("ledger/ledgerref02.prime", laid_ledger_ledgerref02_prime)] }
def FieldProductsSaid : Prop := fieldProductsRow.holds Tryd.pinned (OpenSpec.ofChange fieldProductsSpec)

/-- ITS FALSE NEIGHBOUR: 'it returns false'. Refute it at one input. -/
def fieldProductsWrong : ChangeSpec := { name := "fieldProducts", fn := fun _ => fun
  | [d1, d2] => { results := [.lit (.bool false)], args := [d1, d2] }
  | _ => none }
def FieldProductsWrongFalsely : Prop := fieldProductsRow.holds Tryd.pinned (OpenSpec.ofChange fieldProductsWrong)

/-- 'ledgerlaw02.FieldPows': WHATEVER THE INPUT: true; the input reads as it did. -/
def fieldPowsSpec : ChangeSpec := { name := "fieldPows", fn := fun _ => fun
  | [d1, d2] => { results := [.lit (.bool true)], args := [d1, d2] }
  | _ => none }
def fieldPowsRow : OpenClaim := { program := "ytkegcilcapnpdaadoor", sum := "ba148757514b1e9972c39a7fd9534bfb3b7200fdc06a364a2c0e94e8cfbd5624", func := "ledger/ledgerlaw02.FieldPows", spec := "fieldPows", inPlace := ["math/bits.Add64"], named := ["ledger/field.one", "ledger/ledgerref02.prime", "ledger/field.powers"], apart := false, laid := [("ledger/ledgerref02.prime", laid_ledger_ledgerref02_prime), ("ledger/field.one", laid_ledger_field_one), ("ledger/field.powers", laid_ledger_field_powers)] }
def FieldPowsSaid : Prop := fieldPowsRow.holds Tryd.pinned (OpenSpec.ofChange fieldPowsSpec)

/-- ITS FALSE NEIGHBOUR: 'it returns false'. Refute it at one input. -/
def fieldPowsWrong : ChangeSpec := { name := "fieldPows", fn := fun _ => fun
  | [d1, d2] => { results := [.lit (.bool false)], args := [d1, d2] }
  | _ => none }
def FieldPowsWrongFalsely : Prop := fieldPowsRow.holds Tryd.pinned (OpenSpec.ofChange fieldPowsWrong)

/-- 'ledgerlaw02.FieldKeeps': WHATEVER THE INPUT: true; the input reads as it did. -/
def fieldKeepsSpec : ChangeSpec := { name := "fieldKeeps", fn := fun _ => fun
  | [d] => { results := [.lit (.bool true)], args := [d] }
  | _ => none }
def fieldKeepsRow : OpenClaim := { program := "ytkegcilcapnpdaadoor", sum := "ba148757514b1e9972c39a7fd9534bfb3b7200fdc06a364a2c0e94e8cfbd5624", func := "ledger/ledgerlaw02.FieldKeeps", spec := "fieldKeeps", inPlace := ["math/bits.Add64"], named := ["ledger/ledgerref02.prime", "ledger/field.one", "ledger/field.powers"], apart := false, laid := [("ledger/ledgerref02.prime", laid_ledger_ledgerref02_prime), ("ledger/field.one", laid_ledger_field_one), ("ledger/field.powers", laid_ledger_field_powers)] }
def FieldKeepsSaid : Prop := fieldKeepsRow.holds Tryd.pinned (OpenSpec.ofChange fieldKeepsSpec)

/-- ITS FALSE NEIGHBOUR: 'it returns false'. Refute it at one input. -/
def fieldKeepsWrong : ChangeSpec := { name := "fieldKeeps", fn := fun _ => fun
  | [d] => { results := [.lit (.bool false)], args := [d] }
  | _ => none }
def FieldKeepsWrongFalsely : Prop := fieldKeepsRow.holds Tryd.pinned (OpenSpec.ofChange fieldKeepsWrong)

/-- 'ledgerlaw02.FieldRatios': WHATEVER THE INPUT: true; the input reads as it did. -/
def fieldRatiosSpec : ChangeSpec := { name := "fieldRatios", fn := fun _ => fun
  | [d1, d2] => { results := [.lit (.bool true)], args := [d1, d2] }
  | _ => none }
def fieldRatiosRow : OpenClaim := { program := "ytkegcilcapnpdaadoor", sum := "ba148757514b1e9972c39a7fd9534bfb3b7200fdc06a364a2c0e94e8cfbd5624", func := "ledger/ledgerlaw02.FieldRatios", spec := "fieldRatios", inPlace := ["math/bits.Add64", "math/bits.Sub64"], named := ["ledger/ledgerref02.prime", "ledger/field.rootOfMinusOne", "ledger/field.powers", "ledger/field.one"], apart := false, laid := [("ledger/ledgerref02.prime", laid_ledger_ledgerref02_prime), ("ledger/field.one", laid_ledger_field_one), ("ledger/field.rootOfMinusOne", laid_ledger_field_rootOfMinusOne), ("ledger/field.powers", laid_ledger_field_powers)] }
def FieldRatiosSaid : Prop := fieldRatiosRow.holds Tryd.pinned (OpenSpec.ofChange fieldRatiosSpec)

/-- ITS FALSE NEIGHBOUR: 'it returns false'. Refute it at one input. -/
def fieldRatiosWrong : ChangeSpec := { name := "fieldRatios", fn := fun _ => fun
  | [d1, d2] => { results := [.lit (.bool false)], args := [d1, d2] }
  | _ => none }
def FieldRatiosWrongFalsely : Prop := fieldRatiosRow.holds Tryd.pinned (OpenSpec.ofChange fieldRatiosWrong)

/-- 'ledgerlaw02.FieldAll': WHATEVER THE INPUT: true; the input reads as it did. -/
def fieldAllSpec : ChangeSpec := { name := "fieldAll", fn := fun _ => fun
  | [d] => { results := [.lit (.bool true)], args := [d] }
  | _ => none }
def fieldAllRow : OpenClaim := { program := "ytkegcilcapnpdaadoor", sum := "ba148757514b1e9972c39a7fd9534bfb3b7200fdc06a364a2c0e94e8cfbd5624", func := "ledger/ledgerlaw02.FieldAll", spec := "fieldAll", inPlace := ["math/bits.Add64", "math/bits.Sub64"], named := ["ledger/ledgerref02.prime", "ledger/field.one", "ledger/field.powers", "ledger/field.rootOfMinusOne"], apart := false, laid := [("ledger/ledgerref02.prime", laid_ledger_ledgerref02_prime), ("ledger/field.one", laid_ledger_field_one), ("ledger/field.rootOfMinusOne", laid_ledger_field_rootOfMinusOne), ("ledger/field.powers", laid_ledger_field_powers)] }
def FieldAllSaid : Prop := fieldAllRow.holds Tryd.pinned (OpenSpec.ofChange fieldAllSpec)

/-- ITS FALSE NEIGHBOUR: 'it returns false'. Refute it at one input. -/
def fieldAllWrong : ChangeSpec := { name := "fieldAll", fn := fun _ => fun
  | [d] => { results := [.lit (.bool false)], args := [d] }
  | _ => none }
def FieldAllWrongFalsely : Prop := fieldAllRow.holds Tryd.pinned (OpenSpec.ofChange fieldAllWrong)

/-- 'ledgerlaw04.PointForms': WHATEVER THE INPUT: true; the input reads as it did. -/
def pointFormsSpec : ChangeSpec := { name := "pointForms", fn := fun _ => fun
  | [d] => { results := [.lit (.bool true)], args := [d] }
  | _ => none }
def pointFormsRow : OpenClaim := { program := "ytkegcilcapnpdaadoor", sum := "ba148757514b1e9972c39a7fd9534bfb3b7200fdc06a364a2c0e94e8cfbd5624", func := "ledger/ledgerlaw04.PointForms", spec := "pointForms", inPlace := ["math/bits.Add64", "math/bits.Sub64"], named := ["ledger/point.one", "ledger/point.d", "ledger/field.powers", "ledger/field.rootOfMinusOne", "ledger/field.one"], apart := false, laid := [("ledger/field.one", laid_ledger_field_one), ("ledger/field.rootOfMinusOne", laid_ledger_field_rootOfMinusOne), ("ledger/field.powers", laid_ledger_field_powers), ("ledger/point.one", laid_ledger_point_one), ("ledger/point.d", laid_ledger_point_d)] }
def PointFormsSaid : Prop := pointFormsRow.holds Tryd.pinned (OpenSpec.ofChange pointFormsSpec)

/-- ITS FALSE NEIGHBOUR: 'it returns false'. Refute it at one input. -/
def pointFormsWrong : ChangeSpec := { name := "pointForms", fn := fun _ => fun
  | [d] => { results := [.lit (.bool false)], args := [d] }
  | _ => none }
def PointFormsWrongFalsely : Prop := pointFormsRow.holds Tryd.pinned (OpenSpec.ofChange pointFormsWrong)

/- THE SECOND FORM. 'bulk': how many values and letters a reading holds, each counted each time it is reached (what is shared counts as often as it is met; a slice's spare places count too). A statement '..UptoSaid' is the law's where the arguments, and the package variables that the reading takes, are together of bulk at most 1048576: NARROWER than '..Said'. Prove '..Said' where nothing that the law and all that it calls make is longer than what came in: it says more and counts as full. Else prove '..UptoSaid'. A law counts once. -/
mutual
def uptoBulk {H : Type} : DataW H → Nat
  | .lit (.string bytes) => bytes.length + 1
  | .lit _ => 1
  | .nil => 1
  | .ptr d => uptoBulk d + 1
  | .slice elems spare => uptoBulkAll elems + uptoBulkAll spare + 1
  | .agg parts => uptoBulkAll parts + 1
  | .iface _ d => uptoBulk d + 1
  | .map entries => uptoBulkEntries entries + 1
  | .held _ => 1
def uptoBulkAll {H : Type} : List (DataW H) → Nat
  | [] => 0
  | d :: r => uptoBulk d + uptoBulkAll r
def uptoBulkEntries {H : Type} : List (Lit × DataW H) → Nat
  | [] => 0
  | x :: r => uptoBulkEntry x + uptoBulkEntries r
def uptoBulkEntry {H : Type} : Lit × DataW H → Nat
  | (.string bytes, d) => bytes.length + uptoBulk d + 1
  | (_, d) => uptoBulk d + 1
 end
def uptoSmall : (H : Type) → List (DataW H) → Bool := fun _ ds => decide (uptoBulkAll ds ≤ 1048576)
def OpenSpec.upto (s : _root_.Go.ChangeSpec) : _root_.Go.OpenSpec := { _root_.Go.OpenSpec.ofChange s with cond := some uptoSmall }

/-- 'ledgerlaw02.FieldBatches', WHERE WHAT IT READS IS OF BULK AT MOST 1048576: true; the input reads as it did. -/
def fieldBatchesUptoRow : OpenClaim := { program := "ytkegcilcapnpdaadoor", sum := "ba148757514b1e9972c39a7fd9534bfb3b7200fdc06a364a2c0e94e8cfbd5624", func := "ledger/ledgerlaw02.FieldBatches", spec := "fieldBatches", inPlace := ["math/bits.Add64"], named := ["ledger/field.one", "ledger/field.powers"], apart := false, laid := [("ledger/field.one", laid_ledger_field_one), ("ledger/field.powers", laid_ledger_field_powers)], narrowed := true }
def FieldBatchesUptoSaid : Prop := fieldBatchesUptoRow.holds Tryd.pinned (OpenSpec.upto fieldBatchesSpec)

/-- 'ledgerlaw02.FieldRoots', WHERE WHAT IT READS IS OF BULK AT MOST 1048576: true; the input reads as it did. -/
def fieldRootsUptoRow : OpenClaim := { program := "ytkegcilcapnpdaadoor", sum := "ba148757514b1e9972c39a7fd9534bfb3b7200fdc06a364a2c0e94e8cfbd5624", func := "ledger/ledgerlaw02.FieldRoots", spec := "fieldRoots", inPlace := ["math/bits.Add64", "math/bits.Sub64"], named := ["ledger/field.rootOfMinusOne", "ledger/field.powers", "ledger/field.one"], apart := false, laid := [("ledger/field.one", laid_ledger_field_one), ("ledger/field.rootOfMinusOne", laid_ledger_field_rootOfMinusOne), ("ledger/field.powers", laid_ledger_field_powers)], narrowed := true }
def FieldRootsUptoSaid : Prop := fieldRootsUptoRow.holds Tryd.pinned (OpenSpec.upto fieldRootsSpec)

/-- 'ledgerlaw02.FieldProducts', WHERE WHAT IT READS IS OF BULK AT MOST 1048576: true; the input reads as it did. -/
def fieldProductsUptoRow : OpenClaim := { program := "ytkegcilcapnpdaadoor", sum := "ba148757514b1e9972c39a7fd9534bfb3b7200fdc06a364a2c0e94e8cfbd5624", func := "ledger/ledgerlaw02.FieldProducts", spec := "fieldProducts", inPlace := ["math/bits.Add64", "math/bits.Sub64"], named := ["ledger/ledgerref02.prime"], apart := false, laid := [("ledger/ledgerref02.prime", laid_ledger_ledgerref02_prime)], narrowed := true }
def FieldProductsUptoSaid : Prop := fieldProductsUptoRow.holds Tryd.pinned (OpenSpec.upto fieldProductsSpec)

/-- 'ledgerlaw02.FieldPows', WHERE WHAT IT READS IS OF BULK AT MOST 1048576: true; the input reads as it did. -/
def fieldPowsUptoRow : OpenClaim := { program := "ytkegcilcapnpdaadoor", sum := "ba148757514b1e9972c39a7fd9534bfb3b7200fdc06a364a2c0e94e8cfbd5624", func := "ledger/ledgerlaw02.FieldPows", spec := "fieldPows", inPlace := ["math/bits.Add64"], named := ["ledger/field.one", "ledger/ledgerref02.prime", "ledger/field.powers"], apart := false, laid := [("ledger/ledgerref02.prime", laid_ledger_ledgerref02_prime), ("ledger/field.one", laid_ledger_field_one), ("ledger/field.powers", laid_ledger_field_powers)], narrowed := true }
def FieldPowsUptoSaid : Prop := fieldPowsUptoRow.holds Tryd.pinned (OpenSpec.upto fieldPowsSpec)

/-- 'ledgerlaw02.FieldKeeps', WHERE WHAT IT READS IS OF BULK AT MOST 1048576: true; the input reads as it did. -/
def fieldKeepsUptoRow : OpenClaim := { program := "ytkegcilcapnpdaadoor", sum := "ba148757514b1e9972c39a7fd9534bfb3b7200fdc06a364a2c0e94e8cfbd5624", func := "ledger/ledgerlaw02.FieldKeeps", spec := "fieldKeeps", inPlace := ["math/bits.Add64"], named := ["ledger/ledgerref02.prime", "ledger/field.one", "ledger/field.powers"], apart := false, laid := [("ledger/ledgerref02.prime", laid_ledger_ledgerref02_prime), ("ledger/field.one", laid_ledger_field_one), ("ledger/field.powers", laid_ledger_field_powers)], narrowed := true }
def FieldKeepsUptoSaid : Prop := fieldKeepsUptoRow.holds Tryd.pinned (OpenSpec.upto fieldKeepsSpec)

/-- 'ledgerlaw02.FieldRatios', WHERE WHAT IT READS IS OF BULK AT MOST 1048576: true; the input reads as it did. -/
def fieldRatiosUptoRow : OpenClaim := { program := "ytkegcilcapnpdaadoor", sum := "ba148757514b1e9972c39a7fd9534bfb3b7200fdc06a364a2c0e94e8cfbd5624", func := "ledger/ledgerlaw02.FieldRatios", spec := "fieldRatios", inPlace := ["math/bits.Add64", "math/bits.Sub64"], named := ["ledger/ledgerref02.prime", "ledger/field.rootOfMinusOne", "ledger/field.powers", "ledger/field.one"], apart := false, laid := [("ledger/ledgerref02.prime", laid_ledger_ledgerref02_prime), ("ledger/field.one", laid_ledger_field_one), ("ledger/field.rootOfMinusOne", laid_ledger_field_rootOfMinusOne), ("ledger/field.powers", laid_ledger_field_powers)], narrowed := true }
def FieldRatiosUptoSaid : Prop := fieldRatiosUptoRow.holds Tryd.pinned (OpenSpec.upto fieldRatiosSpec)

/-- 'ledgerlaw02.FieldAll', WHERE WHAT IT READS IS OF BULK AT MOST 1048576: true; the input reads as it did. -/
def fieldAllUptoRow : OpenClaim := { program := "ytkegcilcapnpdaadoor", sum := "ba148757514b1e9972c39a7fd9534bfb3b7200fdc06a364a2c0e94e8cfbd5624", func := "ledger/ledgerlaw02.FieldAll", spec := "fieldAll", inPlace := ["math/bits.Add64", "math/bits.Sub64"], named := ["ledger/ledgerref02.prime", "ledger/field.one", "ledger/field.powers", "ledger/field.rootOfMinusOne"], apart := false, laid := [("ledger/ledgerref02.prime", laid_ledger_ledgerref02_prime), ("ledger/field.one", laid_ledger_field_one), ("ledger/field.rootOfMinusOne", laid_ledger_field_rootOfMinusOne), ("ledger/field.powers", laid_ledger_field_powers)], narrowed := true }
def FieldAllUptoSaid : Prop := fieldAllUptoRow.holds Tryd.pinned (OpenSpec.upto fieldAllSpec)

/-- 'ledgerlaw04.PointForms', WHERE WHAT IT READS IS OF BULK AT MOST 1048576: true; the input reads as it did. -/
def pointFormsUptoRow : OpenClaim := { program := "ytkegcilcapnpdaadoor", sum := "ba148757514b1e9972c39a7fd9534bfb3b7200fdc06a364a2c0e94e8cfbd5624", func := "ledger/ledgerlaw04.PointForms", spec := "pointForms", inPlace := ["math/bits.Add64", "math/bits.Sub64"], named := ["ledger/point.one", "ledger/point.d", "ledger/field.powers", "ledger/field.rootOfMinusOne", "ledger/field.one"], apart := false, laid := [("ledger/field.one", laid_ledger_field_one), ("ledger/field.rootOfMinusOne", laid_ledger_field_rootOfMinusOne), ("ledger/field.powers", laid_ledger_field_powers), ("ledger/point.one", laid_ledger_point_one), ("ledger/point.d", laid_ledger_point_d)], narrowed := true }
def PointFormsUptoSaid : Prop := pointFormsUptoRow.holds Tryd.pinned (OpenSpec.upto pointFormsSpec)

end Rows
end Go.Proofs.YtkegcilcapnpdaaDoor
