import Derived.Test.YtkegcilcapnpdaaDoorMe
import Derived.Test.YtkegcilcapnpdaaDoorMu
import Derived.Test.YtkegcilcapnpdaaDoorTie
import Derived.Test.YtkegcilcapnpdaaDoorCards
import Derived.ProofKit
import Derived.LaidMore
import Derived.OpenShut
import Derived.Stop.Joined
import Derived.SevenTiedAt
namespace Go.Proofs.YtkegcilcapnpdaaDoor
open Go.ChangeShapes Go.WideShapes Go.ChangeAt Go.WideMaps Go.WideElems Go.RowKit Go.Shelf FieldNum

set_option maxRecDepth 100000 in
theorem gPow : Tryd.prog.globalNamed "ledger/field.powers" = some 5 := by kernel_rfl
set_option maxRecDepth 100000 in
theorem tPow : (Tryd.prog.globals[5]?).map (·.type) = some 104 := by kernel_rfl
set_option maxRecDepth 100000 in
theorem cellsRow : Tryd.prog.cellsOf 103 = 2 := by kernel_rfl
set_option maxRecDepth 100000 in
theorem cellsInt : Tryd.prog.cellsOf 3 = 1 := by kernel_rfl

set_option maxRecDepth 100000 in
theorem row2 {W : World} {sp : Nat → Bool} {m : Nat} {cs : List Value} {s q : Int} {pl : List MemPlace}
    (h : DataW.trod (fun _ => ()) Tryd.prog W 0 sp false m 103 cs = some (.agg [.lit (.int .i64 s), .lit (.int .i64 q)], pl)) : cs = [.int .i64 s, .int .i64 q] := by
  obtain ⟨ys, n, rfl, hx, hl, hn, hel⟩ := DataW.trod_struct Tryd.underlying103 h
  rw [cellsRow] at hl
  have e0 : DataW.trod (fun _ => ()) Tryd.prog W 0 sp false n 3 ((cs.drop 0).take (Tryd.prog.cellsOf 3)) = ys[0]? := hel 0 _ rfl
  have e1 : DataW.trod (fun _ => ()) Tryd.prog W 0 sp false n 3 ((cs.drop 1).take (Tryd.prog.cellsOf 3)) = ys[1]? := hel 1 _ rfl
  rw [cellsInt] at e0 e1
  match cs, hl with
  | [c0, c1], _ =>
    match ys, hn with
    | [y0, y1], _ =>
      simp only [Prod.mk.injEq, DataW.agg.injEq, List.map_cons, List.map_nil, List.cons.injEq, and_true] at hx
      obtain ⟨z0, a0, b0, _⟩ := DataW.trod_int Tryd.underlying3 (show DataW.trod _ Tryd.prog W 0 _ false n 3 _ = some y0 from e0)
      obtain ⟨z1, a1, b1, _⟩ := DataW.trod_int Tryd.underlying3 (show DataW.trod _ Tryd.prog W 0 _ false n 3 _ = some y1 from e1)
      simp at a0 a1
      subst a0 a1
      rw [b0, b1] at hx
      simp at hx
      obtain ⟨⟨rfl, rfl⟩, _⟩ := hx
      rfl

set_option maxRecDepth 100000 in
theorem take2 {l : List Value} {k : Nat} {x y : Value} (h : (l.drop k).take 2 = [x, y]) : l[k]? = some x ∧ l[k + 1]? = some y := by
  have h0 := congrArg (·[0]?) h
  have h1 := congrArg (·[1]?) h
  simpa [List.getElem?_take, List.getElem?_drop] using And.intro h0 h1

set_option maxRecDepth 100000 in
theorem pow_of_read {W : World} {cs0 : Array Value} {f0 : Nat} {p0 : List MemPlace} {sp : Nat → Bool} (hc : ∀ i, W.cell? ⟨5, i, none⟩ = cs0[i]?)
    (hd0 : DataW.trod (fun _ => ()) Tryd.prog W 0 sp false f0 104 cs0.toList = some (Rows.laid_ledger_field_powers, p0)) : W.rangeAt 5 0 PW := by
  obtain ⟨xs, m1, rfl, hx1, hlen, hn, hel⟩ := DataW.trod_array Tryd.underlying104 hd0
  rw [cellsRow] at hel
  simp only [Prod.mk.injEq] at hx1
  have hD := hx1.1
  unfold Rows.laid_ledger_field_powers at hD
  simp only [DataW.agg.injEq] at hD
  match xs, hn, hD, hel with
  | [y0, y1, y2, y3, y4, y5, y6, y7, y8, y9], _, hD, hel =>
    simp only [List.map_cons, List.map_nil, List.cons.injEq, and_true] at hD
    obtain ⟨d0, d1, d2, d3, d4, d5, d6, d7, d8, d9⟩ := hD
    have r0 := take2 (row2 (pl := y0.2) ((hel 0 (by decide)).trans (by rw [d0]; rfl)))
    have r1 := take2 (row2 (pl := y1.2) ((hel 1 (by decide)).trans (by rw [d1]; rfl)))
    have r2 := take2 (row2 (pl := y2.2) ((hel 2 (by decide)).trans (by rw [d2]; rfl)))
    have r3 := take2 (row2 (pl := y3.2) ((hel 3 (by decide)).trans (by rw [d3]; rfl)))
    have r4 := take2 (row2 (pl := y4.2) ((hel 4 (by decide)).trans (by rw [d4]; rfl)))
    have r5 := take2 (row2 (pl := y5.2) ((hel 5 (by decide)).trans (by rw [d5]; rfl)))
    have r6 := take2 (row2 (pl := y6.2) ((hel 6 (by decide)).trans (by rw [d6]; rfl)))
    have r7 := take2 (row2 (pl := y7.2) ((hel 7 (by decide)).trans (by rw [d7]; rfl)))
    have r8 := take2 (row2 (pl := y8.2) ((hel 8 (by decide)).trans (by rw [d8]; rfl)))
    have r9 := take2 (row2 (pl := y9.2) ((hel 9 (by decide)).trans (by rw [d9]; rfl)))
    intro j v hv
    rw [Nat.zero_add, hc j, ← Array.getElem?_toList]
    have hj : j < 20 := by
      have := (List.getElem?_eq_some_iff.1 hv).1
      simpa [PW] using this
    have hcases : j = 0 ∨ j = 1 ∨ j = 2 ∨ j = 3 ∨ j = 4 ∨ j = 5 ∨ j = 6 ∨ j = 7 ∨ j = 8 ∨ j = 9 ∨ j = 10 ∨ j = 11 ∨ j = 12 ∨ j = 13 ∨ j = 14 ∨ j = 15 ∨ j = 16 ∨ j = 17 ∨ j = 18 ∨ j = 19 := by omega
    rcases hcases with rfl | rfl | rfl | rfl | rfl | rfl | rfl | rfl | rfl | rfl | rfl | rfl | rfl | rfl | rfl | rfl | rfl | rfl | rfl | rfl
    · exact r0.1.trans hv
    · exact r0.2.trans hv
    · exact r1.1.trans hv
    · exact r1.2.trans hv
    · exact r2.1.trans hv
    · exact r2.2.trans hv
    · exact r3.1.trans hv
    · exact r3.2.trans hv
    · exact r4.1.trans hv
    · exact r4.2.trans hv
    · exact r5.1.trans hv
    · exact r5.2.trans hv
    · exact r6.1.trans hv
    · exact r6.2.trans hv
    · exact r7.1.trans hv
    · exact r7.2.trans hv
    · exact r8.1.trans hv
    · exact r8.2.trans hv
    · exact r9.1.trans hv
    · exact r9.2.trans hv


set_option maxRecDepth 100000 in
theorem num_of_read {W : World} {cs0 : Array Value} {f0 g : Nat} {p0 : List MemPlace} {sp : Nat → Bool} {a0 a1 a2 a3 : Int} {n : Nat} (hc : ∀ i, W.cell? ⟨g, i, none⟩ = cs0[i]?)
    (hd0 : DataW.trod (fun _ => ()) Tryd.prog W 0 sp false f0 66 cs0.toList = some (.agg [.lit (.int .u64 a0), .lit (.int .u64 a1), .lit (.int .u64 a2), .lit (.int .u64 a3)], p0)) (enl : nl n = [.int .u64 a0, .int .u64 a1, .int .u64 a2, .int .u64 a3]) : W.rangeAt g 0 (nl n) := by
  obtain ⟨xs, m1, rfl, hx1, hlen, hn, hel⟩ := DataW.trod_array Tryd.underlying66 hd0
  rw [cells64] at hel
  simp only [Prod.mk.injEq] at hx1
  have hD := hx1.1
  simp only [DataW.agg.injEq] at hD
  have hl : cs0.toList.length = 4 := hlen.trans (by kernel_rfl)
  match xs, hn, hD, hel with
  | [y0, y1, y2, y3], _, hD, hel =>
    simp only [List.map_cons, List.map_nil, List.cons.injEq, and_true] at hD
    obtain ⟨d0, d1, d2, d3⟩ := hD
    have key : ∀ (i : Nat) (y : DataW Unit × List MemPlace) (z : Int), i < 4 → DataW.trod (fun _ => ()) Tryd.prog W 0 sp false m1 64 ((cs0.toList.drop (i * 1)).take 1) = some y → .lit (.int .u64 z) = y.1 → cs0.toList[i]? = some (.int .u64 z) := by
      intro i y z hi h e
      rw [Nat.mul_one, List.drop_eq_getElem_cons (by omega), List.take_succ_cons, List.take_zero] at h
      obtain ⟨z0, a0, b0, _⟩ := DataW.trod_int Tryd.underlying64 h
      simp at a0
      rw [b0] at e
      simp at e
      subst e
      rw [List.getElem?_eq_getElem (by omega)]
      simp [a0]
    have r0 := key 0 y0 _ (by decide) (hel 0 (by decide)) d0
    have r1 := key 1 y1 _ (by decide) (hel 1 (by decide)) d1
    have r2 := key 2 y2 _ (by decide) (hel 2 (by decide)) d2
    have r3 := key 3 y3 _ (by decide) (hel 3 (by decide)) d3
    intro j v hv
    rw [enl] at hv
    rw [Nat.zero_add, hc j, ← Array.getElem?_toList]
    have hj : j < 4 := by
      have := (List.getElem?_eq_some_iff.1 hv).1
      simpa using this
    have hcases : j = 0 ∨ j = 1 ∨ j = 2 ∨ j = 3 := by omega
    rcases hcases with rfl | rfl | rfl | rfl
    · exact r0.trans hv
    · exact r1.trans hv
    · exact r2.trans hv
    · exact r3.trans hv


/-- sixteen ints as data -/
def d16D (f : Nat → Int) : DataW Unit := .agg ((List.range 16).map fun i => .lit (.int .i64 (f i)))
set_option maxRecDepth 100000 in
theorem ints_of_read {W : World} {cs0 : Array Value} {f0 g : Nat} {p0 : List MemPlace} {sp : Nat → Bool} {f : Nat → Int} (hc : ∀ i, W.cell? ⟨g, i, none⟩ = cs0[i]?)
    (hd0 : DataW.trod (fun _ => ()) Tryd.prog W 0 sp false f0 44 cs0.toList = some (d16D f, p0)) : W.rangeAt g 0 (il 16 f) := by
  obtain ⟨xs, m1, rfl, hx1, hlen, hn, hel⟩ := DataW.trod_array Tryd.underlying44 hd0
  rw [cellsInt] at hel
  simp only [Prod.mk.injEq] at hx1
  have hD := hx1.1
  unfold d16D at hD
  simp only [DataW.agg.injEq] at hD
  have hl : cs0.toList.length = 16 := hlen.trans (by kernel_rfl)
  intro j v hv
  have hj : j < 16 := by have := lt_of_get hv; rwa [il_length] at this
  rw [il_get 16 f j hj] at hv
  injection hv with hv
  subst hv
  rw [Nat.zero_add, hc j, ← Array.getElem?_toList]
  have hx : j < xs.length := by
    have := congrArg List.length hD
    simp at this
    omega
  have h1 := hel j hj
  rw [Nat.mul_one, List.drop_eq_getElem_cons (by omega), List.take_succ_cons, List.take_zero, List.getElem?_eq_getElem hx] at h1
  obtain ⟨z0, a0, b0, _⟩ := DataW.trod_int Tryd.underlying3 h1
  have h2 := congrArg (·[j]?) hD
  simp only [List.getElem?_map, List.getElem?_range hj, Option.map_some, List.getElem?_eq_getElem hx, b0] at h2
  have h3 := Option.some.inj h2
  injection h3 with h3
  injection h3 with _ h3
  have a1 := (List.cons.inj a0).1
  rw [List.getElem?_eq_getElem (by omega), a1, ← h3]
theorem da_pr : (Rows.laid_ledger_ledgerref02_prime : DataW Unit) = d16D (d16 p) := by kernel_rfl
theorem nl_Im : nl Im = [.int .u64 14190309331451158704, .int .u64 3405592160176694392, .int .u64 3120150775007532967, .int .u64 3135389899092516619] := by kernel_rfl
theorem nl_1 : nl 1 = [.int .u64 1, .int .u64 0, .int .u64 0, .int .u64 0] := by kernel_rfl
theorem gOne : Tryd.prog.globalNamed "ledger/field.one" = some 0 := by kernel_rfl
theorem tOne : (Tryd.prog.globals[0]?).map (·.type) = some 66 := by kernel_rfl
theorem gIm : Tryd.prog.globalNamed "ledger/field.rootOfMinusOne" = some 4 := by kernel_rfl
theorem tIm : (Tryd.prog.globals[4]?).map (·.type) = some 66 := by kernel_rfl
theorem gPr : Tryd.prog.globalNamed "ledger/ledgerref02.prime" = some 1 := by kernel_rfl
theorem tPr : (Tryd.prog.globals[1]?).map (·.type) = some 44 := by kernel_rfl
/-- the laid variables of chapter 2 -/
structure Gq (w : World) : Prop where
  pr : Gp w
  one : w.rangeAt 0 0 (nl 1)
  pw : w.rangeAt 5 0 PW
theorem Gq.grown {w w' : World} (h : Gq w) (hg : Grown w w') : Gq w' := ⟨h.pr.grown hg, rangeAt_grown h.one hg, rangeAt_grown h.pw hg⟩
theorem glProducts {W : World} (h : laidMetH Tryd.prog Rows.fieldProductsRow.laid W) : Gp W := by
  rw [MakeChecks.laidMetH_plain _ _ _ (by kernel_rfl)] at h
  obtain ⟨ps, ⟨g0, t0, cs0, f0, p0, q0, hg0, ht0, hv0, hd0, _, _⟩, _, _⟩ := h
  obtain rfl := Option.some.inj (gPr.symm.trans hg0)
  obtain rfl := Option.some.inj (tPr.symm.trans ht0)
  exact ints_of_read (World.var?_cell hg0 hv0) (da_pr ▸ hd0)

theorem glPows {W : World} (h : laidMetH Tryd.prog Rows.fieldPowsRow.laid W) : Gq W := by
  rw [MakeChecks.laidMetH_plain _ _ _ (by kernel_rfl)] at h
  obtain ⟨ps, ⟨g0, t0, cs0, f0, p0, q0, hg0, ht0, hv0, hd0, ⟨g1, t1, cs1, f1, p1, q1, hg1, ht1, hv1, hd1, ⟨g2, t2, cs2, f2, p2, q2, hg2, ht2, hv2, hd2, _, _⟩, _⟩, _⟩, _, _⟩ := h
  obtain rfl := Option.some.inj (gPr.symm.trans hg0)
  obtain rfl := Option.some.inj (tPr.symm.trans ht0)
  obtain rfl := Option.some.inj (gOne.symm.trans hg1)
  obtain rfl := Option.some.inj (tOne.symm.trans ht1)
  obtain rfl := Option.some.inj (gPow.symm.trans hg2)
  obtain rfl := Option.some.inj (tPow.symm.trans ht2)
  exact ⟨ints_of_read (World.var?_cell hg0 hv0) (da_pr ▸ hd0), num_of_read (World.var?_cell hg1 hv1) hd1 nl_1, pow_of_read (World.var?_cell hg2 hv2) hd2⟩

theorem glKeeps {W : World} (h : laidMetH Tryd.prog Rows.fieldKeepsRow.laid W) : Gq W := by
  rw [MakeChecks.laidMetH_plain _ _ _ (by kernel_rfl)] at h
  obtain ⟨ps, ⟨g0, t0, cs0, f0, p0, q0, hg0, ht0, hv0, hd0, ⟨g1, t1, cs1, f1, p1, q1, hg1, ht1, hv1, hd1, ⟨g2, t2, cs2, f2, p2, q2, hg2, ht2, hv2, hd2, _, _⟩, _⟩, _⟩, _, _⟩ := h
  obtain rfl := Option.some.inj (gPr.symm.trans hg0)
  obtain rfl := Option.some.inj (tPr.symm.trans ht0)
  obtain rfl := Option.some.inj (gOne.symm.trans hg1)
  obtain rfl := Option.some.inj (tOne.symm.trans ht1)
  obtain rfl := Option.some.inj (gPow.symm.trans hg2)
  obtain rfl := Option.some.inj (tPow.symm.trans ht2)
  exact ⟨ints_of_read (World.var?_cell hg0 hv0) (da_pr ▸ hd0), num_of_read (World.var?_cell hg1 hv1) hd1 nl_1, pow_of_read (World.var?_cell hg2 hv2) hd2⟩

theorem glRatios {W : World} (h : laidMetH Tryd.prog Rows.fieldRatiosRow.laid W) : Gq W ∧ W.rangeAt 4 0 (nl Im) := by
  rw [MakeChecks.laidMetH_plain _ _ _ (by kernel_rfl)] at h
  obtain ⟨ps, ⟨g0, t0, cs0, f0, p0, q0, hg0, ht0, hv0, hd0, ⟨g1, t1, cs1, f1, p1, q1, hg1, ht1, hv1, hd1, ⟨g2, t2, cs2, f2, p2, q2, hg2, ht2, hv2, hd2, ⟨g3, t3, cs3, f3, p3, q3, hg3, ht3, hv3, hd3, _, _⟩, _⟩, _⟩, _⟩, _, _⟩ := h
  obtain rfl := Option.some.inj (gPr.symm.trans hg0)
  obtain rfl := Option.some.inj (tPr.symm.trans ht0)
  obtain rfl := Option.some.inj (gOne.symm.trans hg1)
  obtain rfl := Option.some.inj (tOne.symm.trans ht1)
  obtain rfl := Option.some.inj (gIm.symm.trans hg2)
  obtain rfl := Option.some.inj (tIm.symm.trans ht2)
  obtain rfl := Option.some.inj (gPow.symm.trans hg3)
  obtain rfl := Option.some.inj (tPow.symm.trans ht3)
  exact ⟨⟨ints_of_read (World.var?_cell hg0 hv0) (da_pr ▸ hd0), num_of_read (World.var?_cell hg1 hv1) hd1 nl_1, pow_of_read (World.var?_cell hg3 hv3) hd3⟩, num_of_read (World.var?_cell hg2 hv2) hd2 nl_Im⟩

end Go.Proofs.YtkegcilcapnpdaaDoor
