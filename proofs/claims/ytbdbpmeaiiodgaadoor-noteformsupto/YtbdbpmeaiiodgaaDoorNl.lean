import Derived.Test.YtbdbpmeaiiodgaaDoorNr
import Derived.Lib.LaidU8
import Derived.LaidMore
import Derived.ProofKit
namespace Go.Proofs.YtbdbpmeaiiodgaaDoor
open Go.RowKit TextNum Go.Lib
set_option maxRecDepth 100000 in
theorem whiteX : WhiteExtra Tryd.prog Tryd.lays199_ren := ⟨by kernel_rfl, by kernel_rfl, by kernel_rfl, by kernel_rfl, by kernel_rfl, by kernel_rfl, by kernel_rfl, by kernel_rfl⟩
set_option maxRecDepth 100000 in
theorem white_data : (Rows.laid_unicode_White_Space : DataW Unit) = whiteData := by kernel_rfl
theorem white_of {W : World} (h : VarReads Tryd.prog W "unicode.White_Space" Rows.laid_unicode_White_Space) : WhiteTab 3 W := by
  rw [white_data] at h
  exact whiteTab_of_reads Tryd.lays199 whiteX h
set_option maxRecDepth 100000 in
theorem nBlanks : Tryd.prog.globalNamed "ledger/ledgerref07.blanks" = some 0 := by kernel_rfl
set_option maxRecDepth 100000 in
theorem blanks_data : (Rows.laid_ledger_ledgerref07_blanks : DataW Unit) = .agg (BLK.map fun l => .lit (.string l)) := by kernel_rfl
set_option maxRecDepth 100000 in
theorem blanks_of {W : World} (h : VarReads Tryd.prog W "ledger/ledgerref07.blanks" Rows.laid_ledger_ledgerref07_blanks) : BTab W := by
  rw [blanks_data] at h
  obtain ⟨g, t, cs, fuel, p, hg, hty, hvar, hd⟩ := h
  obtain rfl := Option.some.inj (nBlanks.symm.trans hg)
  obtain rfl := Option.some.inj ((show (Tryd.prog.globals[0]?).map (·.type) = some 92 by kernel_rfl).symm.trans hty)
  intro k hk
  obtain ⟨fuel', d, q, hdi, he⟩ := array_elem Tryd.underlying92 hd k hk
  obtain ⟨s, hs, hx, _⟩ := DataW.trod_string Tryd.underlying9 he
  rw [show Tryd.prog.cellsOf 9 = 1 by kernel_rfl] at hs
  have hkl : k < BLK.length := hk
  rw [List.getElem?_map, List.getElem?_eq_getElem hkl] at hdi
  have e2 : DataW.lit (Lit.string BLK[k]) = (DataW.lit (.string s.data.toList) : DataW Unit) := by
    have h1 : some _ = some d := hdi
    rw [Option.some.injEq] at h1
    exact h1.trans (Prod.mk.inj hx).1
  have e3 : BLK[k] = s.data.toList := by
    injection e2 with e2
    injection e2
  have h0 := congrArg (·[0]?) hs
  simp only [List.getElem?_take, List.getElem?_drop, Nat.mul_one] at h0
  rw [World.var?_cell hg hvar k, ← Array.getElem?_toList]
  have h1 : cs.toList[k]? = some (Value.string s) := by simpa using h0
  rw [h1, List.getD_eq_getElem?_getD, List.getElem?_eq_getElem hkl, Option.getD_some, e3]
theorem glNames {W : World} (h : laidMetH Tryd.prog Rows.noteNamesRow.laid W) : WhiteTab 3 W ∧ BTab W := by
  rw [MakeChecks.laidMetH_plain _ _ _ (by kernel_rfl)] at h
  exact ⟨white_of (laidMet.reads h (by simp [Rows.noteNamesRow])), blanks_of (laidMet.reads h (by simp [Rows.noteNamesRow]))⟩
end Go.Proofs.YtbdbpmeaiiodgaaDoor
