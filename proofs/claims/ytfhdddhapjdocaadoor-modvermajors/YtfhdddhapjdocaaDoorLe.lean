import Derived.Test.YtfhdddhapjdocaaDoorLd
import Derived.Test.YtfhdddhapjdocaaDoorBl
namespace Go.Proofs.YtfhdddhapjdocaaDoor
open Go.RowKit TextNum ModNum Go.Lib
set_option maxRecDepth 100000 in
theorem tabLet : (Rows.laid_ledger_text_letters : DataW Unit) = tabData .u8 (TextNum.LT.map fun c => (c.toNat : Int)) := by kernel_rfl
set_option maxRecDepth 100000 in
theorem nLet : Tryd.prog.globalNamed "ledger/text.letters" = some 1 := by kernel_rfl
set_option maxRecDepth 100000 in
theorem let_of {W : World} (h : VarReads Tryd.prog W "ledger/text.letters" Rows.laid_ledger_text_letters) : TabL W := by
  rw [tabLet] at h
  obtain ⟨g, t, cs, fuel, p, hg, hty, hvar, hd⟩ := h
  obtain rfl := Option.some.inj (nLet.symm.trans hg)
  obtain rfl := Option.some.inj ((show (Tryd.prog.globals[1]?).map (·.type) = some 116 by kernel_rfl).symm.trans hty)
  have hcs := cells_of_tab Tryd.underlying116 Tryd.underlying5 (by kernel_rfl) (by kernel_rfl) hd
  intro i hi
  have hl : i < TextNum.LT.length := by simpa [TextNum.LT] using hi
  rw [World.var?_cell hg hvar i, ← Array.getElem?_toList, hcs]
  simp [TextNum.lt, List.getD, hl]
theorem glFolds {W : World} (h : laidMetH Tryd.prog Rows.modverFoldsRow.laid W) (hs : W.ShapedOpen Tryd.prog) : GR W ∧ TabL W := by
  rw [MakeChecks.laidMetH_plain _ _ _ (by kernel_rfl)] at h
  exact ⟨⟨⟨chars_of (laidMet.reads h (by simp [Rows.modverFoldsRow])), max_of hs⟩, res_of (laidMet.reads h (by simp [Rows.modverFoldsRow]))⟩, let_of (laidMet.reads h (by simp [Rows.modverFoldsRow]))⟩
theorem glBytes {W : World} (h : laidMetH Tryd.prog Rows.modverBytesRow.laid W) (hs : W.ShapedOpen Tryd.prog) : GR W ∧ TabL W := by
  rw [MakeChecks.laidMetH_plain _ _ _ (by kernel_rfl)] at h
  exact ⟨⟨⟨chars_of (laidMet.reads h (by simp [Rows.modverBytesRow])), max_of hs⟩, res_of (laidMet.reads h (by simp [Rows.modverBytesRow]))⟩, let_of (laidMet.reads h (by simp [Rows.modverBytesRow]))⟩
theorem glMajors {W : World} (h : laidMetH Tryd.prog Rows.modverMajorsRow.laid W) (hs : W.ShapedOpen Tryd.prog) : GR W ∧ TabL W := by
  rw [MakeChecks.laidMetH_plain _ _ _ (by kernel_rfl)] at h
  exact ⟨⟨⟨chars_of (laidMet.reads h (by simp [Rows.modverMajorsRow])), max_of hs⟩, res_of (laidMet.reads h (by simp [Rows.modverMajorsRow]))⟩, let_of (laidMet.reads h (by simp [Rows.modverMajorsRow]))⟩
theorem glOnce {W : World} (h : laidMetH Tryd.prog Rows.modverOnceRow.laid W) (hs : W.ShapedOpen Tryd.prog) : GR W ∧ TabL W := by
  rw [MakeChecks.laidMetH_plain _ _ _ (by kernel_rfl)] at h
  exact ⟨⟨⟨chars_of (laidMet.reads h (by simp [Rows.modverOnceRow])), max_of hs⟩, res_of (laidMet.reads h (by simp [Rows.modverOnceRow]))⟩, let_of (laidMet.reads h (by simp [Rows.modverOnceRow]))⟩
theorem glBack {W : World} (h : laidMetH Tryd.prog Rows.modverBackRow.laid W) (hs : W.ShapedOpen Tryd.prog) : GR W ∧ TabL W := by
  rw [MakeChecks.laidMetH_plain _ _ _ (by kernel_rfl)] at h
  exact ⟨⟨⟨chars_of (laidMet.reads h (by simp [Rows.modverBackRow])), max_of hs⟩, res_of (laidMet.reads h (by simp [Rows.modverBackRow]))⟩, let_of (laidMet.reads h (by simp [Rows.modverBackRow]))⟩
end Go.Proofs.YtfhdddhapjdocaaDoor
