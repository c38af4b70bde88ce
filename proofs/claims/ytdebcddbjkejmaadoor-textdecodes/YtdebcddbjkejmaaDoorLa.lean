import Derived.Test.YtdebcddbjkejmaaDoorGa
import Derived.Lib.LaidTab
import Derived.Stop.LaidErr
import Derived.LaidMore
import Derived.ProofKit
namespace Go.Proofs.YtdebcddbjkejmaaDoor
open Go.RowKit TextNum Go.Lib

set_option maxRecDepth 100000 in
theorem tabDig : (Rows.laid_ledger_text_digits : DataW Unit) = tabData .u8 (DT.map fun c => (c.toNat : Int)) := by kernel_rfl
set_option maxRecDepth 100000 in
theorem tabLet : (Rows.laid_ledger_text_letters : DataW Unit) = tabData .u8 (TextNum.LT.map fun c => (c.toNat : Int)) := by kernel_rfl
set_option maxRecDepth 100000 in
theorem tabPow : (Rows.laid_internal_strconv_uint64pow10 : DataW Unit) = tabData .u64 pow10Tab := by kernel_rfl
set_option maxRecDepth 100000 in
theorem nDig : Tryd.prog.globalNamed "ledger/text.digits" = some 0 := by kernel_rfl
set_option maxRecDepth 100000 in
theorem nLet : Tryd.prog.globalNamed "ledger/text.letters" = some 1 := by kernel_rfl
set_option maxRecDepth 100000 in
theorem nErr : Tryd.prog.globalNamed "strconv.ErrRange" = some 4 := by kernel_rfl

set_option maxRecDepth 100000 in
theorem dig_of {W : World} {r : List (String × DataW Unit)} (h : laidMet Tryd.prog (("ledger/text.digits", Rows.laid_ledger_text_digits) :: r) W) : TabD W := by
  rw [tabDig] at h
  have ht := tabIs_of_head (P := Tryd.prog) (g := 0) (t := 64) (e := 5) (n := 16) nDig (by kernel_rfl) Tryd.underlying64 Tryd.underlying5 (by kernel_rfl) (by kernel_rfl) h
  intro i hi
  have := TabIs.cell ht nDig i (by simpa [DT] using hi)
  rw [this]
  have hl : i < DT.length := by simpa [DT] using hi
  simp [TextNum.dg, List.getD, hl]
set_option maxRecDepth 100000 in
theorem let_of {W : World} {r : List (String × DataW Unit)} (h : laidMet Tryd.prog (("ledger/text.letters", Rows.laid_ledger_text_letters) :: r) W) : TabL W := by
  rw [tabLet] at h
  have ht := tabIs_of_head (P := Tryd.prog) (g := 1) (t := 66) (e := 5) (n := 64) nLet (by kernel_rfl) Tryd.underlying66 Tryd.underlying5 (by kernel_rfl) (by kernel_rfl) h
  intro i hi
  have hl : i < TextNum.LT.length := by simpa [TextNum.LT] using hi
  have := TabIs.cell ht nLet i (by simpa using hl)
  rw [this]
  simp [TextNum.lt, List.getD, hl]
set_option maxRecDepth 100000 in
theorem pow_of {W : World} {r : List (String × DataW Unit)} (h : laidMet Tryd.prog (("internal/strconv.uint64pow10", Rows.laid_internal_strconv_uint64pow10) :: r) W) : TabIs Tryd.prog W "internal/strconv.uint64pow10" .u64 pow10Tab := by
  rw [tabPow] at h
  exact tabIs_of_head (P := Tryd.prog) (g := 2) (t := 92) (e := 79) (n := 20) (by kernel_rfl) (by kernel_rfl) Tryd.underlying92 Tryd.underlying79 (by kernel_rfl) (by kernel_rfl) h
set_option maxRecDepth 100000 in
theorem err_of {W : World} {r : List (String × DataW Unit)} (h : laidMet Tryd.prog (("strconv.ErrRange", Rows.laid_strconv_ErrRange) :: r) W) : ∃ te pe, W.cell? ⟨4, 0, none⟩ = some (.iface te pe) := by
  obtain ⟨ps, ⟨g0, t0, cs0, f0, p0, q0, hg0, ht0, hv0, hd0, _, e0⟩, _, _⟩ := h
  obtain rfl := Option.some.inj (nErr.symm.trans hg0)
  obtain rfl := Option.some.inj ((show (Tryd.prog.globals[4]?).map (·.type) = some 61 by kernel_rfl).symm.trans ht0)
  obtain ⟨f1, u, v, hcs, _, _⟩ := iface_of_trod Tryd.underlying61 hd0
  have h0 := World.var?_cell hg0 hv0 0
  rw [← Array.getElem?_toList, hcs] at h0
  exact ⟨u, v, h0⟩
theorem glOnce {W : World} (h : laidMetH Tryd.prog Rows.textOnceRow.laid W) : GA W := by
  rw [MakeChecks.laidMetH_plain _ _ _ (by kernel_rfl)] at h
  have h2 := laidMet.tail (laidMet.tail h)
  have h3 := laidMet.tail h2
  have h5 := laidMet.tail (laidMet.tail h3)
  exact ⟨dig_of (laidMet.tail h5), let_of h5, pow_of h2, err_of h3⟩
theorem glBounds {W : World} (h : laidMetH Tryd.prog Rows.textBoundsRow.laid W) : GN W := by
  rw [MakeChecks.laidMetH_plain _ _ _ (by kernel_rfl)] at h
  have h2 := laidMet.tail (laidMet.tail h)
  exact ⟨pow_of h2, err_of (laidMet.tail h2)⟩
theorem glBack {W : World} (h : laidMetH Tryd.prog Rows.textBackRow.laid W) : TabD W ∧ TabL W := by
  rw [MakeChecks.laidMetH_plain _ _ _ (by kernel_rfl)] at h
  exact ⟨dig_of (laidMet.tail h), let_of h⟩
end Go.Proofs.YtdebcddbjkejmaaDoor
