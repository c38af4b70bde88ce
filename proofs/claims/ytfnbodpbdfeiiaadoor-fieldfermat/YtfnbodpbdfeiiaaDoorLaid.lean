import Derived.Test.YtfnbodpbdfeiiaaDoorLP2
import Derived.Test.YtfnbodpbdfeiiaaDoorRow
import Derived.Test.YtfnbodpbdfeiiaaDoorTie
import Derived.Test.YtfnbodpbdfeiiaaDoorCards
import Derived.ProofKit
import Derived.LaidMore
import Derived.OpenShut
import Derived.Stop.Joined
import Derived.SevenTiedAt
namespace Go.Proofs.YtfnbodpbdfeiiaaDoor
open Go.ChangeShapes Go.WideShapes Go.ChangeAt Go.WideMaps Go.WideElems Go.RowKit Go.Shelf FieldNum

theorem gPow : Tryd.prog.globalNamed "ledger/field.powers" = some 2 := by kernel_rfl
theorem tPow : (Tryd.prog.globals[2]?).map (·.type) = some 60 := by kernel_rfl
theorem cellsRow : Tryd.prog.cellsOf 59 = 2 := by kernel_rfl
theorem cellsInt : Tryd.prog.cellsOf 3 = 1 := by kernel_rfl

theorem row2 {W : World} {sp : Nat → Bool} {m : Nat} {cs : List Value} {s q : Int} {pl : List MemPlace}
    (h : DataW.trod (fun _ => ()) Tryd.prog W 0 sp false m 59 cs = some (.agg [.lit (.int .i64 s), .lit (.int .i64 q)], pl)) : cs = [.int .i64 s, .int .i64 q] := by
  obtain ⟨ys, n, rfl, hx, hl, hn, hel⟩ := DataW.trod_struct Tryd.underlying59 h
  rw [cellsRow] at hl
  have e0 : DataW.trod (fun _ => ()) Tryd.prog W 0 sp false n 3 ((cs.drop 0).take (Tryd.prog.cellsOf 3)) = ys[0]? := hel 0 _ rfl
  have e1 : DataW.trod (fun _ => ()) Tryd.prog W 0 sp false n 3 ((cs.drop 1).take (Tryd.prog.cellsOf 3)) = ys[1]? := hel 1 _ rfl
  rw [cellsInt] at e0 e1
  match cs, hl with
  | [c0, c1], _ =>
    match ys, hn with
    | [y0, y1], _ =>
      simp only [Prod.mk.injEq, DataW.agg.injEq, List.map_cons, List.map_nil, List.cons.injEq, and_true] at hx
      obtain ⟨z0, a0, b0, _⟩ := DataW.trod_int Tryd.underlying3 (show DataW.trod _ Tryd.prog W 0 _ false n 3 _ = some y0 from e0)
      obtain ⟨z1, a1, b1, _⟩ := DataW.trod_int Tryd.underlying3 (show DataW.trod _ Tryd.prog W 0 _ false n 3 _ = some y1 from e1)
      simp at a0 a1
      subst a0 a1
      rw [b0, b1] at hx
      simp at hx
      obtain ⟨⟨rfl, rfl⟩, _⟩ := hx
      rfl

theorem take2 {l : List Value} {k : Nat} {x y : Value} (h : (l.drop k).take 2 = [x, y]) : l[k]? = some x ∧ l[k + 1]? = some y := by
  have h0 := congrArg (·[0]?) h
  have h1 := congrArg (·[1]?) h
  simpa [List.getElem?_take, List.getElem?_drop] using And.intro h0 h1

theorem pow_of_read {W : World} {cs0 : Array Value} {f0 : Nat} {p0 : List MemPlace} {sp : Nat → Bool} (hc : ∀ i, W.cell? ⟨2, i, none⟩ = cs0[i]?)
    (hd0 : DataW.trod (fun _ => ()) Tryd.prog W 0 sp false f0 60 cs0.toList = some (Rows.laid_ledger_field_powers, p0)) : W.rangeAt 2 0 PW := by
  obtain ⟨xs, m1, rfl, hx1, hlen, hn, hel⟩ := DataW.trod_array Tryd.underlying60 hd0
  rw [cellsRow] at hel
  simp only [Prod.mk.injEq] at hx1
  have hD := hx1.1
  unfold Rows.laid_ledger_field_powers at hD
  simp only [DataW.agg.injEq] at hD
  match xs, hn, hD, hel with
  | [y0, y1, y2, y3, y4, y5, y6, y7, y8, y9], _, hD, hel =>
    simp only [List.map_cons, List.map_nil, List.cons.injEq, and_true] at hD
    obtain ⟨d0, d1, d2, d3, d4, d5, d6, d7, d8, d9⟩ := hD
    have r0 := take2 (row2 (pl := y0.2) ((hel 0 (by decide)).trans (by rw [d0]; rfl)))
    have r1 := take2 (row2 (pl := y1.2) ((hel 1 (by decide)).trans (by rw [d1]; rfl)))
    have r2 := take2 (row2 (pl := y2.2) ((hel 2 (by decide)).trans (by rw [d2]; rfl)))
    have r3 := take2 (row2 (pl := y3.2) ((hel 3 (by decide)).trans (by rw [d3]; rfl)))
    have r4 := take2 (row2 (pl := y4.2) ((hel 4 (by decide)).trans (by rw [d4]; rfl)))
    have r5 := take2 (row2 (pl := y5.2) ((hel 5 (by decide)).trans (by rw [d5]; rfl)))
    have r6 := take2 (row2 (pl := y6.2) ((hel 6 (by decide)).trans (by rw [d6]; rfl)))
    have r7 := take2 (row2 (pl := y7.2) ((hel 7 (by decide)).trans (by rw [d7]; rfl)))
    have r8 := take2 (row2 (pl := y8.2) ((hel 8 (by decide)).trans (by rw [d8]; rfl)))
    have r9 := take2 (row2 (pl := y9.2) ((hel 9 (by decide)).trans (by rw [d9]; rfl)))
    intro j v hv
    rw [Nat.zero_add, hc j, ← Array.getElem?_toList]
    have hj : j < 20 := by
      have := (List.getElem?_eq_some_iff.1 hv).1
      simpa [PW] using this
    have hcases : j = 0 ∨ j = 1 ∨ j = 2 ∨ j = 3 ∨ j = 4 ∨ j = 5 ∨ j = 6 ∨ j = 7 ∨ j = 8 ∨ j = 9 ∨ j = 10 ∨ j = 11 ∨ j = 12 ∨ j = 13 ∨ j = 14 ∨ j = 15 ∨ j = 16 ∨ j = 17 ∨ j = 18 ∨ j = 19 := by omega
    rcases hcases with rfl | rfl | rfl | rfl | rfl | rfl | rfl | rfl | rfl | rfl | rfl | rfl | rfl | rfl | rfl | rfl | rfl | rfl | rfl | rfl
    · exact r0.1.trans hv
    · exact r0.2.trans hv
    · exact r1.1.trans hv
    · exact r1.2.trans hv
    · exact r2.1.trans hv
    · exact r2.2.trans hv
    · exact r3.1.trans hv
    · exact r3.2.trans hv
    · exact r4.1.trans hv
    · exact r4.2.trans hv
    · exact r5.1.trans hv
    · exact r5.2.trans hv
    · exact r6.1.trans hv
    · exact r6.2.trans hv
    · exact r7.1.trans hv
    · exact r7.2.trans hv
    · exact r8.1.trans hv
    · exact r8.2.trans hv
    · exact r9.1.trans hv
    · exact r9.2.trans hv


theorem one_of_read {W : World} {cs0 : Array Value} {f0 : Nat} {p0 : List MemPlace} {sp : Nat → Bool} (hc : ∀ i, W.cell? ⟨0, i, none⟩ = cs0[i]?)
    (hd0 : DataW.trod (fun _ => ()) Tryd.prog W 0 sp false f0 38 cs0.toList = some (Rows.laid_ledger_field_one, p0)) : W.rangeAt 0 0 (nl 1) := by
  obtain ⟨xs, m1, rfl, hx1, hlen, hn, hel⟩ := DataW.trod_array Tryd.underlying38 hd0
  rw [cells64] at hel
  simp only [Prod.mk.injEq] at hx1
  have hD := hx1.1
  unfold Rows.laid_ledger_field_one at hD
  simp only [DataW.agg.injEq] at hD
  have hl : cs0.toList.length = 4 := hlen.trans (by kernel_rfl)
  match xs, hn, hD, hel with
  | [y0, y1, y2, y3], _, hD, hel =>
    simp only [List.map_cons, List.map_nil, List.cons.injEq, and_true] at hD
    obtain ⟨d0, d1, d2, d3⟩ := hD
    have key : ∀ (i : Nat) (y : DataW Unit × List MemPlace) (z : Int), i < 4 → DataW.trod (fun _ => ()) Tryd.prog W 0 sp false m1 36 ((cs0.toList.drop (i * 1)).take 1) = some y → .lit (.int .u64 z) = y.1 → cs0.toList[i]? = some (.int .u64 z) := by
      intro i y z hi h e
      rw [Nat.mul_one, List.drop_eq_getElem_cons (by omega), List.take_succ_cons, List.take_zero] at h
      obtain ⟨z0, a0, b0, _⟩ := DataW.trod_int Tryd.underlying36 h
      simp at a0
      rw [b0] at e
      simp at e
      subst e
      rw [List.getElem?_eq_getElem (by omega)]
      simp [a0]
    have r0 := key 0 y0 _ (by decide) (hel 0 (by decide)) d0
    have r1 := key 1 y1 _ (by decide) (hel 1 (by decide)) d1
    have r2 := key 2 y2 _ (by decide) (hel 2 (by decide)) d2
    have r3 := key 3 y3 _ (by decide) (hel 3 (by decide)) d3
    have enl : nl 1 = [.int .u64 1, .int .u64 0, .int .u64 0, .int .u64 0] := by
      simp [nl, List.range, List.range.loop]
    intro j v hv
    rw [enl] at hv
    rw [Nat.zero_add, hc j, ← Array.getElem?_toList]
    have hj : j < 4 := by
      have := (List.getElem?_eq_some_iff.1 hv).1
      simpa using this
    have hcases : j = 0 ∨ j = 1 ∨ j = 2 ∨ j = 3 := by omega
    rcases hcases with rfl | rfl | rfl | rfl
    · exact r0.trans hv
    · exact r1.trans hv
    · exact r2.trans hv
    · exact r3.trans hv

theorem gOne : Tryd.prog.globalNamed "ledger/field.one" = some 0 := by kernel_rfl
theorem tOne : (Tryd.prog.globals[0]?).map (·.type) = some 38 := by kernel_rfl

theorem onePow_of_laid {W : World} (h : laidMetH Tryd.prog Rows.fieldSymbolsRow.laid W) : W.rangeAt 0 0 (nl 1) ∧ W.rangeAt 2 0 PW := by
  rw [MakeChecks.laidMetH_plain _ _ _ (by kernel_rfl)] at h
  obtain ⟨ps, ⟨g0, t0, cs0, f0, p0, q0, hg0, ht0, hv0, hd0, ⟨g1, t1, cs1, f1, p1, q1, hg1, ht1, hv1, hd1, _, _⟩, _⟩, _, _⟩ := h
  obtain rfl := Option.some.inj (gOne.symm.trans hg0)
  obtain rfl := Option.some.inj (tOne.symm.trans ht0)
  obtain rfl := Option.some.inj (gPow.symm.trans hg1)
  obtain rfl := Option.some.inj (tPow.symm.trans ht1)
  exact ⟨one_of_read (World.var?_cell hg0 hv0) hd0, pow_of_read (World.var?_cell hg1 hv1) hd1⟩
end Go.Proofs.YtfnbodpbdfeiiaaDoor
