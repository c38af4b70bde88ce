import Derived.Test.YtnciglpdjpckiaaGreatDoorK8
import Derived.Lib.LaidU8
import Derived.LaidMore
import Derived.ProofKit
import Derived.ShapedOpen
import Derived.Shelf.Vars
import Derived.Test.YtnciglpdjpckiaaGreatDoorKE
import Derived.Test.YtnciglpdjpckiaaGreatDoorTa
import Derived.Lib.LaidTab
namespace Go.Proofs.YtnciglpdjpckiaaGreatDoor
open Go.RowKit TextNum ModNum Go.Lib
set_option maxRecDepth 100000 in
theorem nChars : Tryz.prog.globalNamed "ledger/modver.characters" = some 3 := by kernel_rfl
set_option maxRecDepth 100000 in
theorem nRes : Tryz.prog.globalNamed "ledger/modver.reserved" = some 4 := by kernel_rfl
def rowsT : List (Int × Int × Int) := [(97, 122, 1), (65, 90, 2), (48, 57, 4), (45, 45, 8), (46, 46, 16), (95, 95, 32), (126, 126, 32), (47, 47, 64)]
set_option maxRecDepth 100000 in
theorem chars_data : (Rows.laid_ledger_modver_characters : DataW Unit) = .agg (rowsT.map fun r => .agg [.lit (.int .i32 r.1), .lit (.int .i32 r.2.1), .lit (.int .u8 r.2.2)]) := by kernel_rfl
set_option maxRecDepth 100000 in
theorem res_data : (Rows.laid_ledger_modver_reserved : DataW Unit) = .agg (rsv.map fun l => .lit (.string l)) := by kernel_rfl
set_option maxRecDepth 100000 in
theorem row_cells {W : World} {base : Nat} {sp : Nat → Bool} {held : Bool} {fuel : Nat} {cs : List Value} {a b c : Int} {q : List MemPlace} {enc : TypeId × Value → Unit}
    (h : DataW.trod enc Tryz.prog W base sp held fuel 169 cs = some (.agg [.lit (.int .i32 a), .lit (.int .i32 b), .lit (.int .u8 c)], q)) : cs = [.int .i32 a, .int .i32 b, .int .u8 c] := by
  obtain ⟨ys, m, _, hx, hl, hn, hel⟩ := DataW.trod_struct Tryz.underlying169 h
  rw [show Tryz.prog.cellsOf 169 = 3 by kernel_rfl] at hl
  have hn3 : ys.length = 3 := hn
  have e0 : DataW.trod enc Tryz.prog W base sp held m 21 ((cs.drop 0).take (Tryz.prog.cellsOf 21)) = ys[0]? := hel 0 _ rfl
  have e1 : DataW.trod enc Tryz.prog W base sp held m 21 ((cs.drop 1).take (Tryz.prog.cellsOf 21)) = ys[1]? := hel 1 _ rfl
  have e2 : DataW.trod enc Tryz.prog W base sp held m 142 ((cs.drop 2).take (Tryz.prog.cellsOf 142)) = ys[2]? := hel 2 _ rfl
  rw [show Tryz.prog.cellsOf 21 = 1 by kernel_rfl, List.getElem?_eq_getElem (by omega)] at e0 e1
  rw [show Tryz.prog.cellsOf 142 = 1 by kernel_rfl, List.getElem?_eq_getElem (by omega)] at e2
  obtain ⟨z0, f0, g0, _⟩ := DataW.trod_int Tryz.underlying21 e0
  obtain ⟨z1, f1, g1, _⟩ := DataW.trod_int Tryz.underlying21 e1
  obtain ⟨z2, f2, g2, _⟩ := DataW.trod_int Tryz.underlying142 e2
  have hd := congrArg Prod.fst hx
  simp only at hd
  match ys, hn3 with
  | [y0, y1, y2], _ =>
    simp only [List.getElem_cons_zero, List.getElem_cons_succ] at g0 g1 g2
    simp only [List.map_cons, List.map_nil, g0, g1, g2, DataW.agg.injEq, List.cons.injEq, DataW.lit.injEq, Lit.int.injEq, true_and, and_true] at hd
    obtain ⟨rfl, rfl, rfl⟩ := hd
    match cs, hl with
    | [u0, u1, u2], _ =>
      simp only [List.drop_zero, List.take_succ_cons, List.take_zero, List.cons.injEq, and_true, List.drop_succ_cons] at f0 f1 f2
      rw [f0, f1, f2]
set_option maxRecDepth 100000 in
theorem chars_of {W : World} (h : VarReads Tryz.prog W "ledger/modver.characters" Rows.laid_ledger_modver_characters) : W.rangeAt 3 0 chC := by
  rw [chars_data] at h
  obtain ⟨g, t, cs, fuel, p, hg, hty, hvar, hd⟩ := h
  obtain rfl := Option.some.inj (nChars.symm.trans hg)
  obtain rfl := Option.some.inj ((show (Tryz.prog.globals[3]?).map (·.type) = some 170 by kernel_rfl).symm.trans hty)
  have key : ∀ k, k < 8 → (cs.toList.drop (k * 3)).take 3 = (chC.drop (k * 3)).take 3 := by
    intro k hk
    obtain ⟨fuel', d, q, hdi, he⟩ := array_elem Tryz.underlying170 hd k hk
    rw [show Tryz.prog.cellsOf 169 = 3 by kernel_rfl] at he
    have hkl : k < rowsT.length := hk
    rw [List.getElem?_map, List.getElem?_eq_getElem hkl] at hdi
    simp only [Option.map_some, Option.some.injEq] at hdi
    subst hdi
    rw [row_cells he]
    obtain rfl | rfl | rfl | rfl | rfl | rfl | rfl | rfl : k = 0 ∨ k = 1 ∨ k = 2 ∨ k = 3 ∨ k = 4 ∨ k = 5 ∨ k = 6 ∨ k = 7 := by omega
    all_goals rfl
  intro j v hj
  have hj24 : j < 24 := (List.getElem?_eq_some_iff.1 hj).1
  have h1 := congrArg (·[j % 3]?) (key (j / 3) (by omega))
  simp only [List.getElem?_take, List.getElem?_drop] at h1
  rw [if_pos (by omega), show j / 3 * 3 + j % 3 = j by omega, hj, if_pos (by omega)] at h1
  rw [World.var?_cell hg hvar (0 + j), ← Array.getElem?_toList, Nat.zero_add]
  exact h1
set_option maxRecDepth 100000 in
theorem res_of {W : World} (h : VarReads Tryz.prog W "ledger/modver.reserved" Rows.laid_ledger_modver_reserved) : W.rangeAt 4 0 rsC := by
  rw [res_data] at h
  obtain ⟨g, t, cs, fuel, p, hg, hty, hvar, hd⟩ := h
  obtain rfl := Option.some.inj (nRes.symm.trans hg)
  obtain rfl := Option.some.inj ((show (Tryz.prog.globals[4]?).map (·.type) = some 162 by kernel_rfl).symm.trans hty)
  intro k v hv
  have hk : k < 22 := (List.getElem?_eq_some_iff.1 hv).1
  obtain ⟨fuel', d, q, hdi, he⟩ := array_elem Tryz.underlying162 hd k hk
  obtain ⟨s, hs, hx, _⟩ := DataW.trod_string Tryz.underlying9 he
  rw [show Tryz.prog.cellsOf 9 = 1 by kernel_rfl] at hs
  have hkl : k < rsv.length := hk
  rw [List.getElem?_map, List.getElem?_eq_getElem hkl] at hdi
  have e2 : DataW.lit (Lit.string rsv[k]) = (DataW.lit (.string s.data.toList) : DataW Unit) := by
    have h1 : some _ = some d := hdi
    rw [Option.some.injEq] at h1
    exact h1.trans (Prod.mk.inj hx).1
  have e3 : rsv[k] = s.data.toList := by
    injection e2 with e2
    injection e2
  have h0 := congrArg (·[0]?) hs
  simp only [List.getElem?_take, List.getElem?_drop, Nat.mul_one] at h0
  rw [World.var?_cell hg hvar (0 + k), ← Array.getElem?_toList, Nat.zero_add]
  have h1 : cs.toList[k]? = some (Value.string s) := by simpa using h0
  unfold rsC at hv
  rw [List.getElem?_map, List.getElem?_eq_getElem hkl, Option.map_some, Option.some.injEq, e3] at hv
  rw [h1, ← hv]
set_option maxRecDepth 100000 in
theorem max_of {W : World} (h : W.ShapedOpen Tryz.prog) : ∃ m, W.cell? ⟨2, 0, none⟩ = some (.int .i64 m) :=
  Go.Proofs.cell_of_shapedOpen_int (zero := #[.int .i64 0]) (t := 3) h (of_decide_eq_true (by kernel_rfl)) (by kernel_rfl) rfl (by kernel_rfl) (by kernel_rfl) Tryz.underlying3
end Go.Proofs.YtnciglpdjpckiaaGreatDoor
namespace Go.Proofs.YtnciglpdjpckiaaGreatDoor
open Go.RowKit TextNum ModNum Go.Lib
set_option maxRecDepth 100000 in
theorem tabLet : (Rows.laid_ledger_text_letters : DataW Unit) = tabData .u8 (TextNum.LT.map fun c => (c.toNat : Int)) := by kernel_rfl
set_option maxRecDepth 100000 in
theorem nLet : Tryz.prog.globalNamed "ledger/text.letters" = some 0 := by kernel_rfl
set_option maxRecDepth 100000 in
theorem let_of {W : World} (h : VarReads Tryz.prog W "ledger/text.letters" Rows.laid_ledger_text_letters) : TabL W := by
  rw [tabLet] at h
  obtain ⟨g, t, cs, fuel, p, hg, hty, hvar, hd⟩ := h
  obtain rfl := Option.some.inj (nLet.symm.trans hg)
  obtain rfl := Option.some.inj ((show (Tryz.prog.globals[0]?).map (·.type) = some 153 by kernel_rfl).symm.trans hty)
  have hcs := cells_of_tab Tryz.underlying153 Tryz.underlying5 (by kernel_rfl) (by kernel_rfl) hd
  intro i hi
  have hl : i < TextNum.LT.length := by simpa [TextNum.LT] using hi
  rw [World.var?_cell hg hvar i, ← Array.getElem?_toList, hcs]
  simp [TextNum.lt, List.getD, hl]
set_option maxRecDepth 100000 in
theorem nTk : Tryz.prog.globalNamed "ledger/ledgerref11.taken" = some 1 := by kernel_rfl
set_option maxRecDepth 100000 in
theorem tk_data : (Rows.laid_ledger_ledgerref11_taken : DataW Unit) = .agg (rsv.map fun l => .lit (.string l)) := by kernel_rfl
set_option maxRecDepth 100000 in
theorem taken_raw {W : World} (h : VarReads Tryz.prog W "ledger/ledgerref11.taken" Rows.laid_ledger_ledgerref11_taken) : W.rangeAt 1 0 rsC := by
  rw [tk_data] at h
  obtain ⟨g, t, cs, fuel, p, hg, hty, hvar, hd⟩ := h
  obtain rfl := Option.some.inj (nTk.symm.trans hg)
  obtain rfl := Option.some.inj ((show (Tryz.prog.globals[1]?).map (·.type) = some 162 by kernel_rfl).symm.trans hty)
  intro k v hv
  have hk : k < 22 := (List.getElem?_eq_some_iff.1 hv).1
  obtain ⟨fuel', d, q, hdi, he⟩ := array_elem Tryz.underlying162 hd k hk
  obtain ⟨s, hs, hx, _⟩ := DataW.trod_string Tryz.underlying9 he
  rw [show Tryz.prog.cellsOf 9 = 1 by kernel_rfl] at hs
  have hkl : k < rsv.length := hk
  rw [List.getElem?_map, List.getElem?_eq_getElem hkl] at hdi
  have e2 : DataW.lit (Lit.string rsv[k]) = (DataW.lit (.string s.data.toList) : DataW Unit) := by
    have h1 : some _ = some d := hdi
    rw [Option.some.injEq] at h1
    exact h1.trans (Prod.mk.inj hx).1
  have e3 : rsv[k] = s.data.toList := by
    injection e2 with e2
    injection e2
  have h0 := congrArg (·[0]?) hs
  simp only [List.getElem?_take, List.getElem?_drop, Nat.mul_one] at h0
  rw [World.var?_cell hg hvar (0 + k), ← Array.getElem?_toList, Nat.zero_add]
  have h1 : cs.toList[k]? = some (Value.string s) := by simpa using h0
  unfold rsC at hv
  rw [List.getElem?_map, List.getElem?_eq_getElem hkl, Option.map_some, Option.some.injEq, e3] at hv
  rw [h1, ← hv]
theorem taken_of {W : World} (h : VarReads Tryz.prog W "ledger/ledgerref11.taken" Rows.laid_ledger_ledgerref11_taken) : TK W := fun k hk => by
  have h1 := taken_raw h k (.string ⟨(rsv[k]).toArray⟩) (by
    unfold rsC
    rw [List.getElem?_map, List.getElem?_eq_getElem hk]
    rfl)
  rwa [Nat.zero_add] at h1
theorem glFits {W : World} (h : laidMetH Tryz.prog Rows.modverFitsRow.laid W) (hs : W.ShapedOpen Tryz.prog) : GR W ∧ TabL W ∧ TK W := by
  rw [MakeChecks.laidMetH_plain _ _ _ (by kernel_rfl)] at h
  exact ⟨⟨⟨chars_of (laidMet.reads h (by simp [Rows.modverFitsRow])), max_of hs⟩, res_of (laidMet.reads h (by simp [Rows.modverFitsRow]))⟩, let_of (laidMet.reads h (by simp [Rows.modverFitsRow])), taken_of (laidMet.reads h (by simp [Rows.modverFitsRow]))⟩
end Go.Proofs.YtnciglpdjpckiaaGreatDoor
namespace Go.Proofs.YtnciglpdjpckiaaGreatDoor
open Go.RowKit TextNum ModNum Go.Lib
theorem glTexts {W : World} (h : laidMetH Tryz.prog Rows.modverTextsUptoRow.laid W) (hs : W.ShapedOpen Tryz.prog) : GR W ∧ TabL W ∧ TK W := by
  rw [MakeChecks.laidMetH_plain _ _ _ (by kernel_rfl)] at h
  exact ⟨⟨⟨chars_of (laidMet.reads h (by simp [Rows.modverTextsUptoRow])), max_of hs⟩, res_of (laidMet.reads h (by simp [Rows.modverTextsUptoRow]))⟩, let_of (laidMet.reads h (by simp [Rows.modverTextsUptoRow])), taken_of (laidMet.reads h (by simp [Rows.modverTextsUptoRow]))⟩
end Go.Proofs.YtnciglpdjpckiaaGreatDoor
