import Derived.Test.YtoimglbjepppmaaDoorMe
import Derived.Test.YtoimglbjepppmaaDoorMh
import Derived.Test.YtoimglbjepppmaaDoorTie
import Derived.Test.YtoimglbjepppmaaDoorCards
import Derived.ProofKit
import Derived.LaidMore
import Derived.OpenShut
import Derived.Stop.Joined
import Derived.SevenTiedAt
namespace Go.Proofs.YtoimglbjepppmaaDoor
open Go.ChangeShapes Go.WideShapes Go.ChangeAt Go.WideMaps Go.WideElems Go.RowKit Go.Shelf FieldNum

set_option maxRecDepth 100000 in
theorem gPow : Tryd.prog.globalNamed "ledger/field.powers" = some 5 := by kernel_rfl
set_option maxRecDepth 100000 in
theorem tPow : (Tryd.prog.globals[5]?).map (·.type) = some 114 := by kernel_rfl
set_option maxRecDepth 100000 in
theorem cellsRow : Tryd.prog.cellsOf 113 = 2 := by kernel_rfl
set_option maxRecDepth 100000 in
theorem cellsInt : Tryd.prog.cellsOf 3 = 1 := by kernel_rfl

set_option maxRecDepth 100000 in
theorem row2 {W : World} {sp : Nat → Bool} {m : Nat} {cs : List Value} {s q : Int} {pl : List MemPlace}
    (h : DataW.trod (fun _ => ()) Tryd.prog W 0 sp false m 113 cs = some (.agg [.lit (.int .i64 s), .lit (.int .i64 q)], pl)) : cs = [.int .i64 s, .int .i64 q] := by
  obtain ⟨ys, n, rfl, hx, hl, hn, hel⟩ := DataW.trod_struct Tryd.underlying113 h
  rw [cellsRow] at hl
  have e0 : DataW.trod (fun _ => ()) Tryd.prog W 0 sp false n 3 ((cs.drop 0).take (Tryd.prog.cellsOf 3)) = ys[0]? := hel 0 _ rfl
  have e1 : DataW.trod (fun _ => ()) Tryd.prog W 0 sp false n 3 ((cs.drop 1).take (Tryd.prog.cellsOf 3)) = ys[1]? := hel 1 _ rfl
  rw [cellsInt] at e0 e1
  match cs, hl with
  | [c0, c1], _ =>
    match ys, hn with
    | [y0, y1], _ =>
      simp only [Prod.mk.injEq, DataW.agg.injEq, List.map_cons, List.map_nil, List.cons.injEq, and_true] at hx
      obtain ⟨z0, a0, b0, _⟩ := DataW.trod_int Tryd.underlying3 (show DataW.trod _ Tryd.prog W 0 _ false n 3 _ = some y0 from e0)
      obtain ⟨z1, a1, b1, _⟩ := DataW.trod_int Tryd.underlying3 (show DataW.trod _ Tryd.prog W 0 _ false n 3 _ = some y1 from e1)
      simp at a0 a1
      subst a0 a1
      rw [b0, b1] at hx
      simp at hx
      obtain ⟨⟨rfl, rfl⟩, _⟩ := hx
      rfl

set_option maxRecDepth 100000 in
theorem take2 {l : List Value} {k : Nat} {x y : Value} (h : (l.drop k).take 2 = [x, y]) : l[k]? = some x ∧ l[k + 1]? = some y := by
  have h0 := congrArg (·[0]?) h
  have h1 := congrArg (·[1]?) h
  simpa [List.getElem?_take, List.getElem?_drop] using And.intro h0 h1

set_option maxRecDepth 100000 in
theorem pow_of_read {W : World} {cs0 : Array Value} {f0 : Nat} {p0 : List MemPlace} {sp : Nat → Bool} (hc : ∀ i, W.cell? ⟨5, i, none⟩ = cs0[i]?)
    (hd0 : DataW.trod (fun _ => ()) Tryd.prog W 0 sp false f0 114 cs0.toList = some (Rows.laid_ledger_field_powers, p0)) : W.rangeAt 5 0 PW := by
  obtain ⟨xs, m1, rfl, hx1, hlen, hn, hel⟩ := DataW.trod_array Tryd.underlying114 hd0
  rw [cellsRow] at hel
  simp only [Prod.mk.injEq] at hx1
  have hD := hx1.1
  unfold Rows.laid_ledger_field_powers at hD
  simp only [DataW.agg.injEq] at hD
  match xs, hn, hD, hel with
  | [y0, y1, y2, y3, y4, y5, y6, y7, y8, y9], _, hD, hel =>
    simp only [List.map_cons, List.map_nil, List.cons.injEq, and_true] at hD
    obtain ⟨d0, d1, d2, d3, d4, d5, d6, d7, d8, d9⟩ := hD
    have r0 := take2 (row2 (pl := y0.2) ((hel 0 (by decide)).trans (by rw [d0]; rfl)))
    have r1 := take2 (row2 (pl := y1.2) ((hel 1 (by decide)).trans (by rw [d1]; rfl)))
    have r2 := take2 (row2 (pl := y2.2) ((hel 2 (by decide)).trans (by rw [d2]; rfl)))
    have r3 := take2 (row2 (pl := y3.2) ((hel 3 (by decide)).trans (by rw [d3]; rfl)))
    have r4 := take2 (row2 (pl := y4.2) ((hel 4 (by decide)).trans (by rw [d4]; rfl)))
    have r5 := take2 (row2 (pl := y5.2) ((hel 5 (by decide)).trans (by rw [d5]; rfl)))
    have r6 := take2 (row2 (pl := y6.2) ((hel 6 (by decide)).trans (by rw [d6]; rfl)))
    have r7 := take2 (row2 (pl := y7.2) ((hel 7 (by decide)).trans (by rw [d7]; rfl)))
    have r8 := take2 (row2 (pl := y8.2) ((hel 8 (by decide)).trans (by rw [d8]; rfl)))
    have r9 := take2 (row2 (pl := y9.2) ((hel 9 (by decide)).trans (by rw [d9]; rfl)))
    intro j v hv
    rw [Nat.zero_add, hc j, ← Array.getElem?_toList]
    have hj : j < 20 := by
      have := (List.getElem?_eq_some_iff.1 hv).1
      simpa [PW] using this
    have hcases : j = 0 ∨ j = 1 ∨ j = 2 ∨ j = 3 ∨ j = 4 ∨ j = 5 ∨ j = 6 ∨ j = 7 ∨ j = 8 ∨ j = 9 ∨ j = 10 ∨ j = 11 ∨ j = 12 ∨ j = 13 ∨ j = 14 ∨ j = 15 ∨ j = 16 ∨ j = 17 ∨ j = 18 ∨ j = 19 := by omega
    rcases hcases with rfl | rfl | rfl | rfl | rfl | rfl | rfl | rfl | rfl | rfl | rfl | rfl | rfl | rfl | rfl | rfl | rfl | rfl | rfl | rfl
    · exact r0.1.trans hv
    · exact r0.2.trans hv
    · exact r1.1.trans hv
    · exact r1.2.trans hv
    · exact r2.1.trans hv
    · exact r2.2.trans hv
    · exact r3.1.trans hv
    · exact r3.2.trans hv
    · exact r4.1.trans hv
    · exact r4.2.trans hv
    · exact r5.1.trans hv
    · exact r5.2.trans hv
    · exact r6.1.trans hv
    · exact r6.2.trans hv
    · exact r7.1.trans hv
    · exact r7.2.trans hv
    · exact r8.1.trans hv
    · exact r8.2.trans hv
    · exact r9.1.trans hv
    · exact r9.2.trans hv


set_option maxRecDepth 100000 in
theorem num_of_read {W : World} {cs0 : Array Value} {f0 g : Nat} {p0 : List MemPlace} {sp : Nat → Bool} {a0 a1 a2 a3 : Int} {n : Nat} (hc : ∀ i, W.cell? ⟨g, i, none⟩ = cs0[i]?)
    (hd0 : DataW.trod (fun _ => ()) Tryd.prog W 0 sp false f0 68 cs0.toList = some (.agg [.lit (.int .u64 a0), .lit (.int .u64 a1), .lit (.int .u64 a2), .lit (.int .u64 a3)], p0)) (enl : nl n = [.int .u64 a0, .int .u64 a1, .int .u64 a2, .int .u64 a3]) : W.rangeAt g 0 (nl n) := by
  obtain ⟨xs, m1, rfl, hx1, hlen, hn, hel⟩ := DataW.trod_array Tryd.underlying68 hd0
  rw [cells64] at hel
  simp only [Prod.mk.injEq] at hx1
  have hD := hx1.1
  simp only [DataW.agg.injEq] at hD
  have hl : cs0.toList.length = 4 := hlen.trans (by kernel_rfl)
  match xs, hn, hD, hel with
  | [y0, y1, y2, y3], _, hD, hel =>
    simp only [List.map_cons, List.map_nil, List.cons.injEq, and_true] at hD
    obtain ⟨d0, d1, d2, d3⟩ := hD
    have key : ∀ (i : Nat) (y : DataW Unit × List MemPlace) (z : Int), i < 4 → DataW.trod (fun _ => ()) Tryd.prog W 0 sp false m1 66 ((cs0.toList.drop (i * 1)).take 1) = some y → .lit (.int .u64 z) = y.1 → cs0.toList[i]? = some (.int .u64 z) := by
      intro i y z hi h e
      rw [Nat.mul_one, List.drop_eq_getElem_cons (by omega), List.take_succ_cons, List.take_zero] at h
      obtain ⟨z0, a0, b0, _⟩ := DataW.trod_int Tryd.underlying66 h
      simp at a0
      rw [b0] at e
      simp at e
      subst e
      rw [List.getElem?_eq_getElem (by omega)]
      simp [a0]
    have r0 := key 0 y0 _ (by decide) (hel 0 (by decide)) d0
    have r1 := key 1 y1 _ (by decide) (hel 1 (by decide)) d1
    have r2 := key 2 y2 _ (by decide) (hel 2 (by decide)) d2
    have r3 := key 3 y3 _ (by decide) (hel 3 (by decide)) d3
    intro j v hv
    rw [enl] at hv
    rw [Nat.zero_add, hc j, ← Array.getElem?_toList]
    have hj : j < 4 := by
      have := (List.getElem?_eq_some_iff.1 hv).1
      simpa using this
    have hcases : j = 0 ∨ j = 1 ∨ j = 2 ∨ j = 3 := by omega
    rcases hcases with rfl | rfl | rfl | rfl
    · exact r0.trans hv
    · exact r1.trans hv
    · exact r2.trans hv
    · exact r3.trans hv

set_option maxRecDepth 100000 in

theorem b32_of_read {W : World} {cs0 : Array Value} {f0 g : Nat} {p0 : List MemPlace} {sp : Nat → Bool} {n : Nat} (hc : ∀ i, W.cell? ⟨g, i, none⟩ = cs0[i]?)
    (hd0 : DataW.trod (fun _ => ()) Tryd.prog W 0 sp false f0 23 cs0.toList = some (da Unit n, p0)) : W.rangeAt g 0 (bl n) := by
  obtain ⟨xs, m1, rfl, hx1, hlen, hn, hel⟩ := DataW.trod_array Tryd.underlying23 hd0
  rw [cells8] at hel
  simp only [Prod.mk.injEq] at hx1
  have hD := hx1.1
  unfold da at hD
  simp only [DataW.agg.injEq] at hD
  have hl : cs0.toList.length = 32 := hlen.trans (by kernel_rfl)
  intro j v hv
  have hj : j < 32 := by have := lt_of_get hv; rwa [bl_length] at this
  rw [bl_get n j hj] at hv
  injection hv with hv
  subst hv
  rw [Nat.zero_add, hc j, ← Array.getElem?_toList]
  have hx : j < xs.length := by
    have := congrArg List.length hD
    simp at this
    omega
  have h1 := hel j hj
  rw [Nat.mul_one, List.drop_eq_getElem_cons (by omega), List.take_succ_cons, List.take_zero, List.getElem?_eq_getElem hx] at h1
  obtain ⟨z0, a0, b0, _⟩ := DataW.trod_int Tryd.underlying5 h1
  have h2 := congrArg (·[j]?) hD
  simp only [List.getElem?_map, List.getElem?_range hj, Option.map_some, List.getElem?_eq_getElem hx, b0] at h2
  have h3 := Option.some.inj h2
  injection h3 with h3
  injection h3 with _ h3
  have a1 := (List.cons.inj a0).1
  rw [List.getElem?_eq_getElem (by omega), a1, ← h3]


theorem nl_Im : nl Im = [.int .u64 14190309331451158704, .int .u64 3405592160176694392, .int .u64 3120150775007532967, .int .u64 3135389899092516619] := by kernel_rfl
theorem nl_1 : nl 1 = [.int .u64 1, .int .u64 0, .int .u64 0, .int .u64 0] := by kernel_rfl
theorem da_d : (Rows.laid_ledger_point_d : DataW Unit) = da Unit dd := by kernel_rfl
theorem da_rd : (Rows.laid_ledger_ledgerref04_dBytes : DataW Unit) = da Unit dd := by kernel_rfl
theorem da_one : (Rows.laid_ledger_point_one : DataW Unit) = da Unit 1 := by kernel_rfl
theorem gOne : Tryd.prog.globalNamed "ledger/field.one" = some 0 := by kernel_rfl
theorem tOne : (Tryd.prog.globals[0]?).map (·.type) = some 68 := by kernel_rfl
theorem gIm : Tryd.prog.globalNamed "ledger/field.rootOfMinusOne" = some 4 := by kernel_rfl
theorem tIm : (Tryd.prog.globals[4]?).map (·.type) = some 68 := by kernel_rfl
theorem gP1 : Tryd.prog.globalNamed "ledger/point.one" = some 2 := by kernel_rfl
theorem tP1 : (Tryd.prog.globals[2]?).map (·.type) = some 23 := by kernel_rfl
theorem gPd : Tryd.prog.globalNamed "ledger/point.d" = some 3 := by kernel_rfl
theorem tPd : (Tryd.prog.globals[3]?).map (·.type) = some 23 := by kernel_rfl
theorem gRd : Tryd.prog.globalNamed "ledger/ledgerref04.dBytes" = some 1 := by kernel_rfl
theorem tRd : (Tryd.prog.globals[1]?).map (·.type) = some 23 := by kernel_rfl

theorem glForms {W : World} (h : laidMetH Tryd.prog Rows.pointFormsRow.laid W) : Gl W := by
  rw [MakeChecks.laidMetH_plain _ _ _ (by kernel_rfl)] at h
  obtain ⟨ps, ⟨g0, t0, cs0, f0, p0, q0, hg0, ht0, hv0, hd0, ⟨g1, t1, cs1, f1, p1, q1, hg1, ht1, hv1, hd1, ⟨g2, t2, cs2, f2, p2, q2, hg2, ht2, hv2, hd2, ⟨g3, t3, cs3, f3, p3, q3, hg3, ht3, hv3, hd3, ⟨g4, t4, cs4, f4, p4, q4, hg4, ht4, hv4, hd4, _, _⟩, _⟩, _⟩, _⟩, _⟩, _, _⟩ := h
  obtain rfl := Option.some.inj (gOne.symm.trans hg0)
  obtain rfl := Option.some.inj (tOne.symm.trans ht0)
  obtain rfl := Option.some.inj (gIm.symm.trans hg1)
  obtain rfl := Option.some.inj (tIm.symm.trans ht1)
  obtain rfl := Option.some.inj (gPow.symm.trans hg2)
  obtain rfl := Option.some.inj (tPow.symm.trans ht2)
  obtain rfl := Option.some.inj (gP1.symm.trans hg3)
  obtain rfl := Option.some.inj (tP1.symm.trans ht3)
  obtain rfl := Option.some.inj (gPd.symm.trans hg4)
  obtain rfl := Option.some.inj (tPd.symm.trans ht4)
  exact ⟨num_of_read (World.var?_cell hg0 hv0) hd0 nl_1, b32_of_read (World.var?_cell hg3 hv3) (da_one ▸ hd3), b32_of_read (World.var?_cell hg4 hv4) (da_d ▸ hd4), num_of_read (World.var?_cell hg1 hv1) hd1 nl_Im, pow_of_read (World.var?_cell hg2 hv2) hd2⟩

theorem glRoots {W : World} (h : laidMetH Tryd.prog Rows.fieldRootsRow.laid W) : G4 W := by
  rw [MakeChecks.laidMetH_plain _ _ _ (by kernel_rfl)] at h
  obtain ⟨ps, ⟨g0, t0, cs0, f0, p0, q0, hg0, ht0, hv0, hd0, ⟨g1, t1, cs1, f1, p1, q1, hg1, ht1, hv1, hd1, ⟨g2, t2, cs2, f2, p2, q2, hg2, ht2, hv2, hd2, _, _⟩, _⟩, _⟩, _, _⟩ := h
  obtain rfl := Option.some.inj (gOne.symm.trans hg0)
  obtain rfl := Option.some.inj (tOne.symm.trans ht0)
  obtain rfl := Option.some.inj (gIm.symm.trans hg1)
  obtain rfl := Option.some.inj (tIm.symm.trans ht1)
  obtain rfl := Option.some.inj (gPow.symm.trans hg2)
  obtain rfl := Option.some.inj (tPow.symm.trans ht2)
  exact ⟨num_of_read (World.var?_cell hg0 hv0) hd0 nl_1, num_of_read (World.var?_cell hg1 hv1) hd1 nl_Im, pow_of_read (World.var?_cell hg2 hv2) hd2⟩

theorem glDecodes {W : World} (h : laidMetH Tryd.prog Rows.pointDecodesRow.laid W) : G3 W ∧ W.rangeAt 1 0 (bl dd) := by
  rw [MakeChecks.laidMetH_plain _ _ _ (by kernel_rfl)] at h
  obtain ⟨ps, ⟨g0, t0, cs0, f0, p0, q0, hg0, ht0, hv0, hd0, ⟨g1, t1, cs1, f1, p1, q1, hg1, ht1, hv1, hd1, ⟨g2, t2, cs2, f2, p2, q2, hg2, ht2, hv2, hd2, ⟨g3, t3, cs3, f3, p3, q3, hg3, ht3, hv3, hd3, ⟨g4, t4, cs4, f4, p4, q4, hg4, ht4, hv4, hd4, _, _⟩, _⟩, _⟩, _⟩, _⟩, _, _⟩ := h
  obtain rfl := Option.some.inj (gRd.symm.trans hg0)
  obtain rfl := Option.some.inj (tRd.symm.trans ht0)
  obtain rfl := Option.some.inj (gIm.symm.trans hg1)
  obtain rfl := Option.some.inj (tIm.symm.trans ht1)
  obtain rfl := Option.some.inj (gPow.symm.trans hg2)
  obtain rfl := Option.some.inj (tPow.symm.trans ht2)
  obtain rfl := Option.some.inj (gP1.symm.trans hg3)
  obtain rfl := Option.some.inj (tP1.symm.trans ht3)
  obtain rfl := Option.some.inj (gPd.symm.trans hg4)
  obtain rfl := Option.some.inj (tPd.symm.trans ht4)
  exact ⟨⟨b32_of_read (World.var?_cell hg3 hv3) (da_one ▸ hd3), b32_of_read (World.var?_cell hg4 hv4) (da_d ▸ hd4), num_of_read (World.var?_cell hg1 hv1) hd1 nl_Im, pow_of_read (World.var?_cell hg2 hv2) hd2⟩, b32_of_read (World.var?_cell hg0 hv0) (da_rd ▸ hd0)⟩

theorem glPairs {W : World} (h : laidMetH Tryd.prog Rows.pointPairsRow.laid W) : G2 W ∧ W.rangeAt 1 0 (bl dd) := by
  rw [MakeChecks.laidMetH_plain _ _ _ (by kernel_rfl)] at h
  obtain ⟨ps, ⟨g0, t0, cs0, f0, p0, q0, hg0, ht0, hv0, hd0, ⟨g1, t1, cs1, f1, p1, q1, hg1, ht1, hv1, hd1, ⟨g2, t2, cs2, f2, p2, q2, hg2, ht2, hv2, hd2, ⟨g3, t3, cs3, f3, p3, q3, hg3, ht3, hv3, hd3, _, _⟩, _⟩, _⟩, _⟩, _, _⟩ := h
  obtain rfl := Option.some.inj (gRd.symm.trans hg0)
  obtain rfl := Option.some.inj (tRd.symm.trans ht0)
  obtain rfl := Option.some.inj (gPow.symm.trans hg1)
  obtain rfl := Option.some.inj (tPow.symm.trans ht1)
  obtain rfl := Option.some.inj (gP1.symm.trans hg2)
  obtain rfl := Option.some.inj (tP1.symm.trans ht2)
  obtain rfl := Option.some.inj (gPd.symm.trans hg3)
  obtain rfl := Option.some.inj (tPd.symm.trans ht3)
  exact ⟨⟨b32_of_read (World.var?_cell hg2 hv2) (da_one ▸ hd2), b32_of_read (World.var?_cell hg3 hv3) (da_d ▸ hd3), pow_of_read (World.var?_cell hg1 hv1) hd1⟩, b32_of_read (World.var?_cell hg0 hv0) (da_rd ▸ hd0)⟩

end Go.Proofs.YtoimglbjepppmaaDoor
