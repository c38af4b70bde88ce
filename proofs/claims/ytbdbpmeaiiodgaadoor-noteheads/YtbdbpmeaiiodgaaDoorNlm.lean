import Derived.Test.YtbdbpmeaiiodgaaDoorNr
import Derived.Lib.LaidU8
import Derived.LaidMore
import Derived.ProofKit
import Derived.Test.YtbdbpmeaiiodgaaDoorHp
import Derived.Stop.LaidErr
import Derived.OpenShut
import Derived.ChangeSame
namespace Go.Proofs.YtbdbpmeaiiodgaaDoor
open Go.RowKit TextNum Go.Lib
set_option maxRecDepth 100000 in
theorem whiteX : WhiteExtra Tryd.prog Tryd.lays199_ren := ⟨by kernel_rfl, by kernel_rfl, by kernel_rfl, by kernel_rfl, by kernel_rfl, by kernel_rfl, by kernel_rfl, by kernel_rfl⟩
set_option maxRecDepth 100000 in
theorem white_data : (Rows.laid_unicode_White_Space : DataW Unit) = whiteData := by kernel_rfl
theorem white_of {W : World} (h : VarReads Tryd.prog W "unicode.White_Space" Rows.laid_unicode_White_Space) : WhiteTab 3 W := by
  rw [white_data] at h
  exact whiteTab_of_reads Tryd.lays199 whiteX h
set_option maxRecDepth 100000 in
theorem nBlanks : Tryd.prog.globalNamed "ledger/ledgerref07.blanks" = some 0 := by kernel_rfl
set_option maxRecDepth 100000 in
theorem blanks_data : (Rows.laid_ledger_ledgerref07_blanks : DataW Unit) = .agg (BLK.map fun l => .lit (.string l)) := by kernel_rfl
set_option maxRecDepth 100000 in
theorem blanks_of {W : World} (h : VarReads Tryd.prog W "ledger/ledgerref07.blanks" Rows.laid_ledger_ledgerref07_blanks) : BTab W := by
  rw [blanks_data] at h
  obtain ⟨g, t, cs, fuel, p, hg, hty, hvar, hd⟩ := h
  obtain rfl := Option.some.inj (nBlanks.symm.trans hg)
  obtain rfl := Option.some.inj ((show (Tryd.prog.globals[0]?).map (·.type) = some 92 by kernel_rfl).symm.trans hty)
  intro k hk
  obtain ⟨fuel', d, q, hdi, he⟩ := array_elem Tryd.underlying92 hd k hk
  obtain ⟨s, hs, hx, _⟩ := DataW.trod_string Tryd.underlying9 he
  rw [show Tryd.prog.cellsOf 9 = 1 by kernel_rfl] at hs
  have hkl : k < BLK.length := hk
  rw [List.getElem?_map, List.getElem?_eq_getElem hkl] at hdi
  have e2 : DataW.lit (Lit.string BLK[k]) = (DataW.lit (.string s.data.toList) : DataW Unit) := by
    have h1 : some _ = some d := hdi
    rw [Option.some.injEq] at h1
    exact h1.trans (Prod.mk.inj hx).1
  have e3 : BLK[k] = s.data.toList := by
    injection e2 with e2
    injection e2
  have h0 := congrArg (·[0]?) hs
  simp only [List.getElem?_take, List.getElem?_drop, Nat.mul_one] at h0
  rw [World.var?_cell hg hvar k, ← Array.getElem?_toList]
  have h1 : cs.toList[k]? = some (Value.string s) := by simpa using h0
  rw [h1, List.getD_eq_getElem?_getD, List.getElem?_eq_getElem hkl, Option.getD_some, e3]
theorem glNames {W : World} (h : laidMetH Tryd.prog Rows.noteNamesRow.laid W) : WhiteTab 3 W ∧ BTab W := by
  rw [MakeChecks.laidMetH_plain _ _ _ (by kernel_rfl)] at h
  exact ⟨white_of (laidMet.reads h (by simp [Rows.noteNamesRow])), blanks_of (laidMet.reads h (by simp [Rows.noteNamesRow]))⟩
end Go.Proofs.YtbdbpmeaiiodgaaDoor
namespace Go.Proofs.YtbdbpmeaiiodgaaDoor
open Go.RowKit TextNum Go.Lib Go.ChangeShapes Go.WideShapes Go.ChangeAt
set_option maxRecDepth 100000 in
theorem tabLet : (Rows.laid_ledger_text_letters : DataW Unit) = tabData .u8 (TextNum.LT.map fun c => (c.toNat : Int)) := by kernel_rfl
set_option maxRecDepth 100000 in
theorem tabPow : (Rows.laid_internal_strconv_uint64pow10 : DataW Unit) = tabData .u64 pow10Tab := by kernel_rfl
set_option maxRecDepth 100000 in
theorem nLet : Tryd.prog.globalNamed "ledger/text.letters" = some 1 := by kernel_rfl
set_option maxRecDepth 100000 in
theorem nErr : Tryd.prog.globalNamed "strconv.ErrRange" = some 7 := by kernel_rfl
set_option maxRecDepth 100000 in
theorem let_of {W : World} (h : VarReads Tryd.prog W "ledger/text.letters" Rows.laid_ledger_text_letters) : TabL W := by
  rw [tabLet] at h
  obtain ⟨g, t, cs, fuel, p, hg, hty, hvar, hd⟩ := h
  obtain rfl := Option.some.inj (nLet.symm.trans hg)
  obtain rfl := Option.some.inj ((show (Tryd.prog.globals[1]?).map (·.type) = some 109 by kernel_rfl).symm.trans hty)
  have hcs := cells_of_tab Tryd.underlying109 Tryd.underlying5 (by kernel_rfl) (by kernel_rfl) hd
  intro i hi
  have hl : i < TextNum.LT.length := by simpa [TextNum.LT] using hi
  rw [World.var?_cell hg hvar i, ← Array.getElem?_toList, hcs]
  simp [TextNum.lt, List.getD, hl]
set_option maxRecDepth 100000 in
theorem pow_of {W : World} (h : VarReads Tryd.prog W "internal/strconv.uint64pow10" Rows.laid_internal_strconv_uint64pow10) : TabIs Tryd.prog W "internal/strconv.uint64pow10" .u64 pow10Tab := by
  rw [tabPow] at h
  obtain ⟨g, t, cs, fuel, p, hg, hty, hvar, hd⟩ := h
  obtain rfl := Option.some.inj ((show Tryd.prog.globalNamed "internal/strconv.uint64pow10" = some 5 by kernel_rfl).symm.trans hg)
  obtain rfl := Option.some.inj ((show (Tryd.prog.globals[5]?).map (·.type) = some 172 by kernel_rfl).symm.trans hty)
  have hcs := cells_of_tab Tryd.underlying172 Tryd.underlying159 (by kernel_rfl) (by kernel_rfl) hd
  unfold TabIs
  rw [hvar, ← hcs]
set_option maxRecDepth 100000 in
theorem err_of {W : World} (h : VarReads Tryd.prog W "strconv.ErrRange" Rows.laid_strconv_ErrRange) : ∃ te pe, W.cell? ⟨7, 0, none⟩ = some (.iface te pe) := by
  obtain ⟨g0, t0, cs0, f0, p0, hg0, ht0, hv0, hd0⟩ := h
  obtain rfl := Option.some.inj (nErr.symm.trans hg0)
  obtain rfl := Option.some.inj ((show (Tryd.prog.globals[7]?).map (·.type) = some 154 by kernel_rfl).symm.trans ht0)
  obtain ⟨f1, u, v, hcs, _, _⟩ := iface_of_trod Tryd.underlying154 hd0
  have h0 := World.var?_cell hg0 hv0 0
  rw [← Array.getElem?_toList, hcs] at h0
  exact ⟨u, v, h0⟩
theorem glHeadBack {W : World} (h : laidMetH Tryd.prog Rows.noteHeadBackRow.laid W) : GH W := by
  rw [MakeChecks.laidMetH_plain _ _ _ (by kernel_rfl)] at h
  exact ⟨white_of (laidMet.reads h (by simp [Rows.noteHeadBackRow])), let_of (laidMet.reads h (by simp [Rows.noteHeadBackRow])), ⟨pow_of (laidMet.reads h (by simp [Rows.noteHeadBackRow])), err_of (laidMet.reads h (by simp [Rows.noteHeadBackRow]))⟩⟩
theorem cell_byte {v : Value} {z : Int} (h : v = .int .u8 z) (h0 : 0 ≤ z) (h1 : z ≤ 255) : ∃ c : UInt8, v = .int .u8 (c.toNat : Int) := by
  subst h
  refine ⟨UInt8.ofNat z.toNat, ?_⟩
  rw [UInt8.toNat_ofNat', Nat.mod_eq_of_lt (by omega)]
  congr 1
  omega
theorem bytes_of : ∀ (l : List Value), (∀ v, v ∈ l → ∃ c : UInt8, v = .int .u8 (c.toNat : Int)) → ∃ r : List UInt8, l = cb r
  | [], _ => ⟨[], rfl⟩
  | v :: l, h => by
    obtain ⟨c, hc⟩ := h v (by simp)
    obtain ⟨r, hr⟩ := bytes_of l (fun u hu => h u (by simp [hu]))
    exact ⟨c :: r, by rw [hc, hr]; rfl⟩
set_option maxRecDepth 100000 in
theorem openH {H : Type} {enc : TypeId × Value → H} {W : World} {base : Nat} {v : Value} {d : DataW H} {q : List MemPlace}
    (hval : Value.okWide Tryd.prog W .any base 54 v) (h : DataW.Trod enc Tryd.prog W 0 (fun _ => true) true 54 v d q) :
    ∃ (o : ByteArray) (n : Int) (r : List UInt8), r.length = 32 ∧ -9223372036854775808 ≤ n ∧ n ≤ 9223372036854775807 ∧ v = headV o n r := by
  obtain ⟨cs, rfl, hsz⟩ := okWide_struct Tryd.underlying54 hval
  rw [show Tryd.prog.cellsOf 54 = 34 by kernel_rfl] at hsz
  obtain ⟨l⟩ := cs
  have hl : l.length = 34 := by simpa using hsz
  obtain ⟨fuel, hf⟩ := h
  have hf' : DataW.trod enc Tryd.prog W 0 (fun _ => true) true fuel 54 l = some (d, q) := hf
  obtain ⟨xs, m, rfl, hx, _, hxl, hall⟩ := DataW.trod_struct Tryd.underlying54 hf'
  have g0 := hall 0 _ rfl
  have g1 := hall 1 _ rfl
  have g2 := hall 2 _ rfl
  have hxl' : xs.length = 3 := hxl
  rw [List.getElem?_eq_getElem (by omega)] at g0 g1 g2
  change DataW.trod _ _ _ _ _ _ _ 9 ((l.drop 0).take (Tryd.prog.cellsOf 9)) = _ at g0
  change DataW.trod _ _ _ _ _ _ _ 2 ((l.drop 1).take (Tryd.prog.cellsOf 2)) = _ at g1
  change DataW.trod _ _ _ _ _ _ _ 52 ((l.drop 2).take (Tryd.prog.cellsOf 52)) = _ at g2
  rw [show Tryd.prog.cellsOf 9 = 1 by kernel_rfl] at g0
  rw [show Tryd.prog.cellsOf 2 = 1 by kernel_rfl] at g1
  rw [show Tryd.prog.cellsOf 52 = 32 by kernel_rfl] at g2
  obtain ⟨o, e0, _, _⟩ := DataW.trod_string Tryd.underlying9 g0
  obtain ⟨n, e1, _, w1⟩ := DataW.trod_int Tryd.underlying2 g1
  obtain ⟨ys, m2, _, _, hlen, hyl, hel⟩ := DataW.trod_array Tryd.underlying52 g2
  rw [show Tryd.prog.cellsOf 5 = 1 by kernel_rfl] at hel
  match l, hl with
  | a :: b :: t, hl =>
    have ht : t.length = 32 := by simpa using hl
    simp only [List.drop_zero, List.take_succ_cons, List.take_zero, List.cons.injEq, and_true, List.drop_succ_cons] at e0 e1
    simp only [List.drop_succ_cons, List.drop_zero, List.take_of_length_le (Nat.le_of_eq ht)] at hel
    obtain ⟨r, hr⟩ := bytes_of t (fun v hv => by
      obtain ⟨i, hi, e⟩ := List.getElem_of_mem hv
      have h1 := hel i (by omega)
      rw [Nat.mul_one, List.drop_eq_getElem_cons hi, List.take_succ_cons, List.take_zero, List.getElem?_eq_getElem (by omega)] at h1
      obtain ⟨z, ez, _, wz⟩ := DataW.trod_int Tryd.underlying5 h1
      have hb : 0 ≤ z ∧ z ≤ 255 := by simpa [Lit.wf, IntKind.min, IntKind.max, IntKind.signed, IntKind.bits] using wz
      rw [e] at ez
      exact cell_byte (by simpa using ez) hb.1 hb.2)
    have hn : -9223372036854775808 ≤ n ∧ n ≤ 9223372036854775807 := by simpa [Lit.wf, IntKind.min, IntKind.max, IntKind.signed, IntKind.bits] using w1
    refine ⟨o, n, r, ?_, hn.1, hn.2, ?_⟩
    · rw [hr, cb_length] at ht; exact ht
    · rw [e0, e1, hr]; rfl
end Go.Proofs.YtbdbpmeaiiodgaaDoor
namespace Go.Proofs.YtbdbpmeaiiodgaaDoor
open Go.RowKit TextNum Go.Lib
theorem glHeads {W : World} (h : laidMetH Tryd.prog Rows.noteHeadsRow.laid W) : GH W ∧ BTab W := by
  rw [MakeChecks.laidMetH_plain _ _ _ (by kernel_rfl)] at h
  exact ⟨⟨white_of (laidMet.reads h (by simp [Rows.noteHeadsRow])), let_of (laidMet.reads h (by simp [Rows.noteHeadsRow])), ⟨pow_of (laidMet.reads h (by simp [Rows.noteHeadsRow])), err_of (laidMet.reads h (by simp [Rows.noteHeadsRow]))⟩⟩, blanks_of (laidMet.reads h (by simp [Rows.noteHeadsRow]))⟩
end Go.Proofs.YtbdbpmeaiiodgaaDoor
