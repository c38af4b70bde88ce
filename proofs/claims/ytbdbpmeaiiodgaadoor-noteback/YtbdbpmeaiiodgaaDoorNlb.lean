import Derived.Test.YtbdbpmeaiiodgaaDoorTb
import Derived.Lib.LaidU8
import Derived.Lib.LaidTab
import Derived.LaidMore
import Derived.ProofKit
import Derived.Stop.LaidErr
import Derived.OpenShut
import Derived.ChangeSame
namespace Go.Proofs.YtbdbpmeaiiodgaaDoor
open Go.RowKit TextNum Go.Lib Go.ChangeShapes Go.WideShapes Go.ChangeAt
set_option maxRecDepth 100000 in
theorem tabDigB : (Rows.laid_ledger_text_digits : DataW Unit) = tabData .u8 (DT.map fun c => (c.toNat : Int)) := by kernel_rfl
set_option maxRecDepth 100000 in
theorem tabLetB : (Rows.laid_ledger_text_letters : DataW Unit) = tabData .u8 (TextNum.LT.map fun c => (c.toNat : Int)) := by kernel_rfl
set_option maxRecDepth 100000 in
theorem nDigB : Tryd.prog.globalNamed "ledger/text.digits" = some 2 := by kernel_rfl
set_option maxRecDepth 100000 in
theorem nLetB : Tryd.prog.globalNamed "ledger/text.letters" = some 1 := by kernel_rfl
set_option maxRecDepth 100000 in
theorem let_ofB {W : World} (h : VarReads Tryd.prog W "ledger/text.letters" Rows.laid_ledger_text_letters) : TabL W := by
  rw [tabLetB] at h
  obtain ⟨g, t, cs, fuel, p, hg, hty, hvar, hd⟩ := h
  obtain rfl := Option.some.inj (nLetB.symm.trans hg)
  obtain rfl := Option.some.inj ((show (Tryd.prog.globals[1]?).map (·.type) = some 109 by kernel_rfl).symm.trans hty)
  have hcs := cells_of_tab Tryd.underlying109 Tryd.underlying5 (by kernel_rfl) (by kernel_rfl) hd
  intro i hi
  have hl : i < TextNum.LT.length := by simpa [TextNum.LT] using hi
  rw [World.var?_cell hg hvar i, ← Array.getElem?_toList, hcs]
  simp [TextNum.lt, List.getD, hl]
set_option maxRecDepth 100000 in
theorem dig_ofB {W : World} (h : VarReads Tryd.prog W "ledger/text.digits" Rows.laid_ledger_text_digits) : TabD W := by
  rw [tabDigB] at h
  obtain ⟨g, t, cs, fuel, p, hg, hty, hvar, hd⟩ := h
  obtain rfl := Option.some.inj (nDigB.symm.trans hg)
  obtain rfl := Option.some.inj ((show (Tryd.prog.globals[2]?).map (·.type) = some 110 by kernel_rfl).symm.trans hty)
  have hcs := cells_of_tab Tryd.underlying110 Tryd.underlying5 (by kernel_rfl) (by kernel_rfl) hd
  intro i hi
  have hl : i < DT.length := by simpa [DT] using hi
  rw [World.var?_cell hg hvar i, ← Array.getElem?_toList, hcs]
  simp [TextNum.dg, List.getD, hl]
theorem glBackB {W : World} (h : laidMetH Tryd.prog Rows.textBackUptoRow.laid W) : TabD W ∧ TabL W := by
  rw [MakeChecks.laidMetH_plain _ _ _ (by kernel_rfl)] at h
  exact ⟨dig_ofB (laidMet.reads h (by simp [Rows.textBackUptoRow])), let_ofB (laidMet.reads h (by simp [Rows.textBackUptoRow]))⟩
end Go.Proofs.YtbdbpmeaiiodgaaDoor
