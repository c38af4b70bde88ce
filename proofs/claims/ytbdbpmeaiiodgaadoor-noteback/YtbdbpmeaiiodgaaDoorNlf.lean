import Derived.Test.YtbdbpmeaiiodgaaDoorNlb
import Derived.Test.YtbdbpmeaiiodgaaDoorNm
namespace Go.Proofs.YtbdbpmeaiiodgaaDoor
open Go.RowKit TextNum Go.Lib
set_option maxRecDepth 100000 in
theorem whiteXf : WhiteExtra Tryd.prog Tryd.lays199_ren := ⟨by kernel_rfl, by kernel_rfl, by kernel_rfl, by kernel_rfl, by kernel_rfl, by kernel_rfl, by kernel_rfl, by kernel_rfl⟩
set_option maxRecDepth 100000 in
theorem white_dataf : (Rows.laid_unicode_White_Space : DataW Unit) = whiteData := by kernel_rfl
theorem white_off {W : World} (h : VarReads Tryd.prog W "unicode.White_Space" Rows.laid_unicode_White_Space) : WhiteTab 3 W := by
  rw [white_dataf] at h
  exact whiteTab_of_reads Tryd.lays199 whiteXf h
theorem glNoteBack {W : World} (h : laidMetH Tryd.prog Rows.noteBackRow.laid W) : WhiteTab 3 W ∧ TabL W := by
  rw [MakeChecks.laidMetH_plain _ _ _ (by kernel_rfl)] at h
  exact ⟨white_off (laidMet.reads h (by simp [Rows.noteBackRow])), let_ofB (laidMet.reads h (by simp [Rows.noteBackRow]))⟩
end Go.Proofs.YtbdbpmeaiiodgaaDoor
