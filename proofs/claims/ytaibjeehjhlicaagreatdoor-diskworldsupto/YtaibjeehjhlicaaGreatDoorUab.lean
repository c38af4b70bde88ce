import Derived.Test.YtaibjeehjhlicaaGreatDoorQbw
import Derived.Test.YtaibjeehjhlicaaGreatDoorQba
import Derived.SizedLaws
import Derived.ProofKit
import Derived.OpenShut
import Derived.ChangeSame
import Derived.WideKeyArgs
import Derived.DataReads
import Derived.Test.YtaibjeehjhlicaaGreatDoorQbc
import Derived.ShapedOpen
import Derived.Shelf.Vars
namespace Go.Proofs.YtaibjeehjhlicaaGreatDoor
open Go.ChangeShapes Go.WideShapes Go.ChangeAt Go.WideMaps Go.WideElems Go.RowKit TextNum
set_option maxRecDepth 100000 in
theorem op_openW {H : Type} {enc : TypeId × Value → H} {W : World} {fuel : Nat} {cs : List Value} {d : DataW H} {ps : List MemPlace}
    (hf : DataW.trod enc Tryz.prog W 0 (fun _ => true) true fuel 55 cs = some (d, ps)) (hN : ∀ n ∈ d.weights Tryz.prog 55, n ≤ 140737488355000) : ∃ o : OP, cs = opc o ∧ (opc o).all (·.oneCell') = true ∧ (∃ ds, Sb W o.v6 ds ∧ ds.length ≤ 140737488355000) ∧ o.at_ ≤ 9223372036854775807 := by
  obtain ⟨ys, m, _, hx, hl, hn, hel⟩ := DataW.trod_struct Tryz.underlying55 hf
  rw [cellsOp] at hl
  have hn3 : ys.length = 9 := hn
  obtain ⟨x0, x1, x2, x3, x4, x5, x6, x7, x8, rfl⟩ : ∃ x0 x1 x2 x3 x4 x5 x6 x7 x8, cs = [x0, x1, x2, x3, x4, x5, x6, x7, x8] := by
    match cs, hl with
    | [x0, x1, x2, x3, x4, x5, x6, x7, x8], _ => exact ⟨x0, x1, x2, x3, x4, x5, x6, x7, x8, rfl⟩
  injection hx with hd _
  have cI : Tryz.prog.cellsOf 3 = 1 := by kernel_rfl
  have cS : Tryz.prog.cellsOf 9 = 1 := by kernel_rfl
  have cB : Tryz.prog.cellsOf 41 = 1 := by kernel_rfl
  have cF : Tryz.prog.cellsOf 53 = 1 := by kernel_rfl
  have cN : Tryz.prog.cellsOf 23 = 1 := by kernel_rfl
  have e0 : DataW.trod enc Tryz.prog W 0 (fun _ => true) true m 3 (([x0, x1, x2, x3, x4, x5, x6, x7, x8].drop 0).take (Tryz.prog.cellsOf 3)) = ys[0]? := hel 0 _ rfl
  have e1 : DataW.trod enc Tryz.prog W 0 (fun _ => true) true m 3 (([x0, x1, x2, x3, x4, x5, x6, x7, x8].drop 1).take (Tryz.prog.cellsOf 3)) = ys[1]? := hel 1 _ rfl
  have e2 : DataW.trod enc Tryz.prog W 0 (fun _ => true) true m 9 (([x0, x1, x2, x3, x4, x5, x6, x7, x8].drop 2).take (Tryz.prog.cellsOf 9)) = ys[2]? := hel 2 _ rfl
  have e3 : DataW.trod enc Tryz.prog W 0 (fun _ => true) true m 9 (([x0, x1, x2, x3, x4, x5, x6, x7, x8].drop 3).take (Tryz.prog.cellsOf 9)) = ys[3]? := hel 3 _ rfl
  have e4 : DataW.trod enc Tryz.prog W 0 (fun _ => true) true m 3 (([x0, x1, x2, x3, x4, x5, x6, x7, x8].drop 4).take (Tryz.prog.cellsOf 3)) = ys[4]? := hel 4 _ rfl
  have e5 : DataW.trod enc Tryz.prog W 0 (fun _ => true) true m 3 (([x0, x1, x2, x3, x4, x5, x6, x7, x8].drop 5).take (Tryz.prog.cellsOf 3)) = ys[5]? := hel 5 _ rfl
  have e6 : DataW.trod enc Tryz.prog W 0 (fun _ => true) true m 41 (([x0, x1, x2, x3, x4, x5, x6, x7, x8].drop 6).take (Tryz.prog.cellsOf 41)) = ys[6]? := hel 6 _ rfl
  have e7 : DataW.trod enc Tryz.prog W 0 (fun _ => true) true m 53 (([x0, x1, x2, x3, x4, x5, x6, x7, x8].drop 7).take (Tryz.prog.cellsOf 53)) = ys[7]? := hel 7 _ rfl
  have e8 : DataW.trod enc Tryz.prog W 0 (fun _ => true) true m 23 (([x0, x1, x2, x3, x4, x5, x6, x7, x8].drop 8).take (Tryz.prog.cellsOf 23)) = ys[8]? := hel 8 _ rfl
  rw [cI, List.getElem?_eq_getElem (by omega)] at e0 e1 e4 e5
  rw [cS, List.getElem?_eq_getElem (by omega)] at e2 e3
  rw [cB, List.getElem?_eq_getElem (by omega)] at e6
  rw [cF, List.getElem?_eq_getElem (by omega)] at e7
  rw [cN, List.getElem?_eq_getElem (by omega)] at e8
  obtain ⟨k0, f0, _, _⟩ := DataW.trod_int Tryz.underlying3 e0
  obtain ⟨k1, f1, _, _⟩ := DataW.trod_int Tryz.underlying3 e1
  obtain ⟨k2, f2, _, _⟩ := DataW.trod_string Tryz.underlying9 e2
  obtain ⟨k3, f3, _, _⟩ := DataW.trod_string Tryz.underlying9 e3
  obtain ⟨k4, f4, _, z4⟩ := DataW.trod_int Tryz.underlying3 e4
  obtain ⟨k5, f5, _, _⟩ := DataW.trod_int Tryz.underlying3 e5
  obtain ⟨⟨d6, p6⟩, hy6⟩ : ∃ y, ys[6]'(by omega) = y := ⟨_, rfl⟩
  rw [hy6] at e6
  obtain ⟨k6, b6, f6, s6, l6⟩ := sb_open (N := 140737488355000) e6 (fun n hn1 => hN n (by
    rw [hd]
    simp only [DataW.weights, Tryz.underlying55]
    exact DataW.weights_mem_each (j := 6) (t := 41) rfl (by rw [List.getElem?_map, List.getElem?_eq_getElem (by omega), hy6]; rfl) n hn1))
  have g6 : k6.oneCell' = true := by
    obtain ⟨a', c', e', _⟩ := id s6
    rw [e']
    rfl
  obtain ⟨k7, f7, g7⟩ := slice_one Tryz.underlying53 e7
  obtain ⟨k8, f8, g8⟩ := slice_one Tryz.underlying23 e8
  simp only [List.drop_zero, List.take_succ_cons, List.take_zero, List.cons.injEq, and_true, List.drop_succ_cons] at f0 f1 f2 f3 f4 f5 f6 f7 f8
  have hz : k4 ≤ 9223372036854775807 := by
    have hb : -9223372036854775808 ≤ k4 ∧ k4 ≤ 9223372036854775807 := by simpa [Lit.wf, IntKind.min, IntKind.max, IntKind.signed, IntKind.bits] using z4
    exact hb.2
  refine ⟨⟨k0, k1, k2, k3, k4, k5, k6, k7, k8⟩, ?_, ?_, ⟨b6, s6, l6⟩, hz⟩
  · rw [f0, f1, f2, f3, f4, f5, f6, f7, f8]; rfl
  · refine List.all_eq_true.2 (fun u hu => ?_)
    unfold opc at hu
    simp only [List.mem_cons, List.not_mem_nil, or_false] at hu
    rcases hu with rfl | rfl | rfl | rfl | rfl | rfl | rfl | rfl | rfl
    all_goals first
      | rfl
      | exact g6
      | exact g7
      | exact g8
set_option maxRecDepth 100000 in
/-- a script as an argument -/
theorem scr_open {H : Type} {enc : TypeId × Value → H} {W : World} {v : Value} {d : DataW H} {ps : List MemPlace} {base : Nat}
    (hval : Value.okWide Tryz.prog W .any base 22 v) (h : DataW.Trod enc Tryz.prog W 0 (fun _ => true) true 22 v d ps) (hN : ∀ n ∈ d.weights Tryz.prog 22, n ≤ 140737488355000) : ∃ a ts c, v = .slice a (List.length ts) c ∧ SCR W a ts c ∧ List.length ts ≤ 4611686018427387904 := by
  obtain ⟨a, len, cap, rfl⟩ := okWide_slice Tryz.underlying22 hval
  obtain ⟨fuel, hf⟩ := h
  have hf' : DataW.trod enc Tryz.prog W 0 (fun _ => true) true fuel 22 [.slice a len cap] = some (d, ps) := hf
  rcases DataW.trod_slice Tryz.underlying22 hf' with ⟨e1, _⟩ | ⟨ad, l2, c2, elems, rest, n, _, e1, hx, _, hlc, _, hel0, hel, _, _⟩
  · simp only [List.cons.injEq, Value.slice.injEq, and_true] at e1
    obtain ⟨rfl, rfl, rfl⟩ := e1
    exact ⟨none, [], 0, rfl, ⟨⟨Nat.le_refl _, (fun i hi => by cases hi), (fun p hp => by cases hp)⟩, (fun p hp => by cases hp)⟩, Nat.zero_le _⟩
  · simp only [List.cons.injEq, Value.slice.injEq, and_true] at e1
    obtain ⟨rfl, rfl, rfl⟩ := e1
    rw [cellsOp] at hel
    injection hx with hd _
    have key : ∀ i, i < len → ∃ o : OP, W.cells? 0 (ad.add (i * 9)) 9 = some (opc o) ∧ (opc o).all (·.oneCell') = true ∧ (∃ ds, Sb W o.v6 ds ∧ ds.length ≤ 140737488355000) ∧ o.at_ ≤ 9223372036854775807 := by
      intro i hi
      have h1 := hel i hi
      rw [List.getElem?_eq_getElem (by omega), Option.bind_eq_some_iff] at h1
      obtain ⟨cs, hcs, hy⟩ := h1
      obtain ⟨t, rfl, h2⟩ := op_openW hy (fun n hn1 => hN n (by
        rw [hd]
        simp only [DataW.weights, Tryz.underlying22]
        refine List.mem_cons_of_mem _ (List.mem_append_left _ (mem_all (j := i) (d := (elems[i]'(by omega)).1) (by rw [List.getElem?_map, List.getElem?_eq_getElem (by omega)]; rfl) n hn1))))
      exact ⟨t, hcs, h2⟩
    have mk : ∀ k, k ≤ len → ∃ ts : List OP, ts.length = k ∧ ∀ i (hi : i < ts.length), W.cells? 0 (ad.add (i * 9)) 9 = some (opc ts[i]) ∧ (opc ts[i]).all (·.oneCell') = true ∧ (∃ ds, Sb W ts[i].v6 ds ∧ ds.length ≤ 140737488355000) ∧ ts[i].at_ ≤ 9223372036854775807 := by
      intro k
      induction k with
      | zero => exact fun _ => ⟨[], rfl, fun i hi => by cases hi⟩
      | succ k ih =>
        intro hk
        obtain ⟨ts, hl, ht⟩ := ih (by omega)
        obtain ⟨t, hk2⟩ := key k (by omega)
        refine ⟨ts ++ [t], by rw [List.length_append, hl]; rfl, fun i hi => ?_⟩
        by_cases hik : i < ts.length
        · rw [List.getElem_append_left hik]
          exact ht i hik
        · have e : i = k := by rw [List.length_append] at hi; simp at hi; omega
          subst e
          rw [List.getElem_append_right (by omega)]
          simp only [hl, Nat.sub_self, List.getElem_cons_zero]
          exact hk2
    obtain ⟨ts, hl, ht⟩ := mk len (Nat.le_refl _)
    refine ⟨some ad, ts, cap, by rw [hl], ⟨⟨by rw [hl]; exact hlc, fun i hi => ?_, fun p hp => ?_⟩, fun p hp => ?_⟩, ?_⟩
    · have hcs := (ht i hi).1
      obtain ⟨b, off, sp⟩ := ad
      have hsp : sp = none := by
        have h2 := (World.cells?_some (ht 0 (by omega)).1).2.2 0 (by decide)
        rw [Nat.zero_mul] at h2
        have h3 : W.cell? (((⟨b, off, sp⟩ : Addr).add 0).add 0) = some (.int .i64 (ts[0]'(by omega)).kd) := h2.trans rfl
        have h4 := plain_ofO h3
        unfold Addr.add at h4
        rw [if_pos rfl] at h4
        exact h4
      subst hsp
      refine ⟨b, off, rfl, fun j u hu => ?_⟩
      have hj : j < 9 := (List.getElem?_eq_some_iff.1 hu).1
      have h0 := (World.cells?_some hcs).2.2 j hj
      rw [Addr.add_lit, Addr.add_lit] at h0
      rw [h0]
      exact hu
    · obtain ⟨i, hi, rfl⟩ := List.getElem_of_mem hp
      exact (ht i hi).2.1
    · obtain ⟨i, hi, rfl⟩ := List.getElem_of_mem hp
      obtain ⟨_, _, ⟨ds, q1, q2⟩, q3⟩ := ht i hi
      exact ⟨ds, q1, by omega, q3⟩
    · rw [hl]
      have h1 := hN ((elems.length + rest.length) * 136) (by
        rw [hd]
        simp only [DataW.weights, Tryz.underlying22, show Tryz.prog.bytesOf 55 = 136 by kernel_rfl, List.length_map]
        exact List.mem_cons_self)
      omega
end Go.Proofs.YtaibjeehjhlicaaGreatDoor
namespace Go.Proofs.YtaibjeehjhlicaaGreatDoor
open Go.RowKit TextNum Go.Lib
set_option maxRecDepth 100000 in
theorem mlOf {W : World} (h : W.ShapedOpen Tryz.prog) : ML W :=
  Go.Proofs.cell_of_shapedOpen_int (zero := #[.int .i64 0]) (t := 3) h (of_decide_eq_true (by kernel_rfl)) (by kernel_rfl) rfl (by kernel_rfl) (by kernel_rfl) Tryz.underlying3
theorem ml_lt {W : World} (h : ML W) : 0 < W.heap.size := by
  obtain ⟨m, hm⟩ := h
  rcases Nat.lt_or_ge 0 W.heap.size with h1 | h1
  · exact h1
  · exfalso
    simp [World.cell?, Array.getElem?_eq_none h1] at hm
end Go.Proofs.YtaibjeehjhlicaaGreatDoor
namespace Go.Proofs.YtaibjeehjhlicaaGreatDoor
open Go.ChangeShapes Go.WideShapes Go.ChangeAt Go.WideMaps Go.WideElems Go.RowKit TextNum
set_option maxRecDepth 100000 in
theorem si_cells {H : Type} {enc : TypeId × Value → H} {W : World} {fuel : Nat} {l : List Value} {d : DataW H} {ps : List MemPlace}
    (hf : DataW.trod enc Tryz.prog W 0 (fun _ => true) true fuel 23 l = some (d, ps)) (hN : ∀ n ∈ d.weights Tryz.prog 23, n ≤ 140737488355000) : ∃ v cs, l = [v] ∧ SI W v cs ∧ cs.length ≤ 17592186044416 := by
  rcases open_ints Tryz.underlying23 Tryz.underlying3 cellsI hf with ⟨e1, _⟩ | ⟨ad, len, cap, zs, e1, _, hlc, hcm, hzl, hx, hcell, hwf⟩
  · exact ⟨_, [], e1, ⟨none, 0, rfl, Nat.le_refl _, by simp [maxLen], fun _ => ⟨rfl, rfl⟩, (fun _ e => by cases e)⟩, Nat.zero_le _⟩
  · simp only [if_true] at hzl
    injection hx with hd _
    have hlen : (zs.take len).length = len := by rw [List.length_take, Nat.min_eq_left (by omega)]
    refine ⟨_, zs.take len, e1, ⟨some ad, cap, by rw [hlen], by rw [hlen]; omega, hcm, (fun e => by cases e), fun ad' e => ?_⟩, ?_⟩
    · obtain rfl := Option.some.inj e
      refine ⟨fun h0 => ?_, fun j u hj => ?_⟩
      · have h1 : 0 < len := by
          rcases Nat.eq_zero_or_pos len with h | h
          · exfalso; apply h0; subst h; simp
          · exact h
        exact plain_of (hcell 0 (by omega))
      · have hj1 : j < len := by
          have := (List.getElem?_eq_some_iff.1 hj).1
          rw [ci_length, hlen] at this
          exact this
        have hj2 : j < zs.length := by omega
        have h1 := hcell j hj2
        have h2 : (ci (zs.take len))[j]? = some (.int .i64 zs[j]) := by
          unfold ci
          rw [List.getElem?_map, List.getElem?_take_of_lt hj1, List.getElem?_eq_getElem hj2]
          rfl
        rw [h2] at hj
        rw [h1, ← hj]
        simp only [List.getD_eq_getElem?_getD, List.getElem?_eq_getElem hj2, Option.getD_some]
    · rw [hlen]
      have h1 := hN (((lits (H := H) .i64 (zs.take len)).length + (lits (H := H) .i64 (zs.drop len)).length) * 8) (by
        rw [hd]
        simp only [DataW.weights, Tryz.underlying23, bytesI]
        exact List.mem_cons_self)
      have e : (lits (H := H) .i64 (zs.take len)).length = (zs.take len).length := by simp [lits]
      rw [e, hlen] at h1
      omega
set_option maxRecDepth 100000 in
theorem cellsSwap : Tryz.prog.cellsOf 43 = 4 := by kernel_rfl
set_option maxRecDepth 100000 in
theorem cellsFault : Tryz.prog.cellsOf 52 = 3 := by kernel_rfl
set_option maxRecDepth 100000 in
theorem open_swap {H : Type} {enc : TypeId × Value → H} {W : World} {v : Value} {d : DataW H} {ps : List MemPlace} {base : Nat} (hval : Value.okWide Tryz.prog W .any base 43 v) (h : DataW.Trod enc Tryz.prog W 0 (fun _ => true) true 43 v d ps) (hN : ∀ n ∈ d.weights Tryz.prog 43, n ≤ 140737488355000) :
    ∃ vO vN st vC dO dN cs, v = .agg #[vO, vN, .int .i64 st, vC] ∧ Sb W vO dO ∧ Sb W vN dN ∧ SI W vC cs ∧ dO.length ≤ 140737488355328 ∧ dN.length ≤ 140737488355328 ∧ cs.length ≤ 17592186044416 := by
  obtain ⟨cs, rfl, hsz⟩ := okWide_struct Tryz.underlying43 hval
  rw [cellsSwap] at hsz
  obtain ⟨c0, c1, c2, c3, rfl⟩ : ∃ a b c d, cs = #[a, b, c, d] := by
    obtain ⟨l⟩ := cs
    match l, hsz with
    | [a, b, c, d], _ => exact ⟨a, b, c, d, rfl⟩
  obtain ⟨fuel, hf⟩ := h
  obtain ⟨xs, n, _, hx, _, hlen, hg⟩ := DataW.trod_struct Tryz.underlying43 hf
  match xs, hlen with
  | [y0, y1, y2, y3], _ =>
    have h0 := hg 0 _ rfl
    have h1 := hg 1 _ rfl
    have h2 := hg 2 _ rfl
    have h3 := hg 3 _ rfl
    have g0 : DataW.trod enc Tryz.prog W 0 (fun _ => true) true n 41 [c0] = some y0 := h0
    have g1 : DataW.trod enc Tryz.prog W 0 (fun _ => true) true n 41 [c1] = some y1 := h1
    have g2 : DataW.trod enc Tryz.prog W 0 (fun _ => true) true n 3 [c2] = some y2 := h2
    have g3 : DataW.trod enc Tryz.prog W 0 (fun _ => true) true n 23 [c3] = some y3 := h3
    clear h0 h1 h2 h3 hg
    obtain ⟨d0, q0⟩ := y0
    obtain ⟨d1, q1⟩ := y1
    obtain ⟨d2, q2⟩ := y2
    obtain ⟨d3, q3⟩ := y3
    injection hx with hd _
    have hW : ∀ (j : Nat) (t : TypeId) (e : DataW H), [41, 41, 3, 23][j]? = some t → [d0, d1, d2, d3][j]? = some e → ∀ n ∈ e.weights Tryz.prog t, n ≤ 140737488355000 := fun j t e ht he n hn => hN n (by
      rw [hd]
      unfold DataW.weights
      rw [Tryz.underlying43]
      exact DataW.weights_mem_each (j := j) ht he n hn)
    obtain ⟨v0, b0, e0, s0, l0⟩ := sb_open (N := 140737488355000) g0 (hW 0 _ _ rfl rfl)
    obtain ⟨v1, b1, e1, s1, l1⟩ := sb_open (N := 140737488355000) g1 (hW 1 _ _ rfl rfl)
    obtain ⟨z, e2, _, _⟩ := DataW.trod_int Tryz.underlying3 g2
    obtain ⟨v3, b3, e3, s3, l3⟩ := si_cells g3 (hW 3 _ _ rfl rfl)
    simp only [List.cons.injEq, and_true] at e0 e1 e2 e3
    subst e0 e1 e2 e3
    exact ⟨_, _, z, _, b0, b1, b3, rfl, s0, s1, s3, by omega, by omega, l3⟩
set_option maxRecDepth 100000 in
theorem open_fault {H : Type} {enc : TypeId × Value → H} {W : World} {v : Value} {d : DataW H} {ps : List MemPlace} {base : Nat} (hval : Value.okWide Tryz.prog W .any base 52 v) (h : DataW.Trod enc Tryz.prog W 0 (fun _ => true) true 52 v d ps) (hN : ∀ n ∈ d.weights Tryz.prog 52, n ≤ 140737488355000) :
    ∃ z bl vC cs, v = .agg #[.int .i64 z, .bool bl, vC] ∧ SI W vC cs ∧ cs.length ≤ 17592186044416 := by
  obtain ⟨cs, rfl, hsz⟩ := okWide_struct Tryz.underlying52 hval
  rw [cellsFault] at hsz
  obtain ⟨c0, c1, c2, rfl⟩ : ∃ a b c, cs = #[a, b, c] := by
    obtain ⟨l⟩ := cs
    match l, hsz with
    | [a, b, c], _ => exact ⟨a, b, c, rfl⟩
  obtain ⟨fuel, hf⟩ := h
  obtain ⟨xs, n, _, hx, _, hlen, hg⟩ := DataW.trod_struct Tryz.underlying52 hf
  match xs, hlen with
  | [y0, y1, y2], _ =>
    have h0 := hg 0 _ rfl
    have h1 := hg 1 _ rfl
    have h2 := hg 2 _ rfl
    have g0 : DataW.trod enc Tryz.prog W 0 (fun _ => true) true n 3 [c0] = some y0 := h0
    have g1 : DataW.trod enc Tryz.prog W 0 (fun _ => true) true n 4 [c1] = some y1 := h1
    have g2 : DataW.trod enc Tryz.prog W 0 (fun _ => true) true n 23 [c2] = some y2 := h2
    clear h0 h1 h2 hg
    obtain ⟨d0, q0⟩ := y0
    obtain ⟨d1, q1⟩ := y1
    obtain ⟨d2, q2⟩ := y2
    injection hx with hd _
    have hW : ∀ n ∈ d2.weights Tryz.prog 23, n ≤ 140737488355000 := fun n hn => hN n (by
      rw [hd]
      unfold DataW.weights
      rw [Tryz.underlying52]
      exact DataW.weights_mem_each (j := 2) (t := 23) rfl rfl n hn)
    obtain ⟨z, e0, _, _⟩ := DataW.trod_int Tryz.underlying3 g0
    obtain ⟨bl, e1, _⟩ := DataW.trod_bool Tryz.underlying4 g1
    obtain ⟨v2, b2, e2, s2, l2⟩ := si_cells g2 hW
    simp only [List.cons.injEq, and_true] at e0 e1 e2
    subst e0 e1 e2
    exact ⟨z, bl, _, b2, rfl, s2, l2⟩
end Go.Proofs.YtaibjeehjhlicaaGreatDoor
