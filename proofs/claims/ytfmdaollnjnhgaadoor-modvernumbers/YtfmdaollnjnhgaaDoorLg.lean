import Derived.Test.YtfmdaollnjnhgaaDoorLd
import Derived.Test.YtfmdaollnjnhgaaDoorNf
namespace Go.Proofs.YtfmdaollnjnhgaaDoor
open Go.RowKit TextNum ModNum Go.Lib
set_option maxRecDepth 100000 in
theorem tabPow : (Rows.laid_internal_strconv_uint64pow10 : DataW Unit) = tabData .u64 pow10Tab := by kernel_rfl
set_option maxRecDepth 100000 in
theorem pow_of {W : World} (h : VarReads Tryd.prog W "internal/strconv.uint64pow10" Rows.laid_internal_strconv_uint64pow10) : GP W := by
  rw [tabPow] at h
  obtain ⟨g, t, cs, fuel, p, hg, hty, hvar, hd⟩ := h
  obtain rfl := Option.some.inj ((show Tryd.prog.globalNamed "internal/strconv.uint64pow10" = some 2 by kernel_rfl).symm.trans hg)
  obtain rfl := Option.some.inj ((show (Tryd.prog.globals[2]?).map (·.type) = some 123 by kernel_rfl).symm.trans hty)
  have hcs := cells_of_tab Tryd.underlying123 Tryd.underlying53 (by kernel_rfl) (by kernel_rfl) hd
  unfold GP TabIs
  rw [hvar, ← hcs]
theorem glNumbers {W : World} (h : laidMetH Tryd.prog Rows.modverNumbersRow.laid W) (hs : W.ShapedOpen Tryd.prog) : GM W ∧ GP W := by
  rw [MakeChecks.laidMetH_plain _ _ _ (by kernel_rfl)] at h
  exact ⟨⟨chars_of (laidMet.reads h (by simp [Rows.modverNumbersRow])), max_of hs⟩, pow_of (laidMet.reads h (by simp [Rows.modverNumbersRow]))⟩
end Go.Proofs.YtfmdaollnjnhgaaDoor
