import Derived.Test.YtnmknidhpjjbgaaDoorGs
import Derived.SizedLaws
import Derived.ProofKit
import Derived.OpenShut
import Derived.ChangeSame
import Derived.WideKeyArgs
import Derived.DataReads
namespace Go.Proofs.YtnmknidhpjjbgaaDoor
open Go.ChangeShapes Go.WideShapes Go.ChangeAt Go.WideMaps Go.WideElems Go.RowKit TextNum
set_option maxRecDepth 100000 in
theorem cellsOp : Tryd.prog.cellsOf 44 = 9 := by kernel_rfl
theorem plain_ofO {W : World} {ad : Addr} {v : Value} (h : W.cell? (ad.add 0) = some v) : ad.spot = none := by
  have e : ad.add 0 = ad := by unfold Addr.add; rw [if_pos rfl]
  rw [e] at h
  obtain ⟨b, off, sp⟩ := ad
  cases sp with
  | none => rfl
  | some s => exfalso; simp only [World.cell?] at h; split at h <;> simp at h
theorem slice_one {H : Type} {enc : TypeId × Value → H} {W : World} {fuel : Nat} {t e : TypeId} {cs : List Value} {x : DataW H × List MemPlace} (ht : Tryd.prog.underlying t = some (.slice e)) (h : DataW.trod enc Tryd.prog W 0 (fun _ => true) true fuel t cs = some x) : ∃ v, cs = [v] ∧ v.oneCell' = true := by
  rcases DataW.trod_slice ht h with ⟨e1, _⟩ | ⟨a, l, c, _, _, _, _, e1, _⟩
  · exact ⟨_, e1, rfl⟩
  · exact ⟨_, e1, rfl⟩
set_option maxRecDepth 100000 in
theorem op_open {H : Type} {enc : TypeId × Value → H} {W : World} {fuel : Nat} {cs : List Value} {d : DataW H} {ps : List MemPlace}
    (hf : DataW.trod enc Tryd.prog W 0 (fun _ => true) true fuel 44 cs = some (d, ps)) : ∃ o : OP, cs = opc o ∧ (opc o).all (·.oneCell') = true := by
  obtain ⟨ys, m, _, hx, hl, hn, hel⟩ := DataW.trod_struct Tryd.underlying44 hf
  rw [cellsOp] at hl
  have hn3 : ys.length = 9 := hn
  obtain ⟨x0, x1, x2, x3, x4, x5, x6, x7, x8, rfl⟩ : ∃ x0 x1 x2 x3 x4 x5 x6 x7 x8, cs = [x0, x1, x2, x3, x4, x5, x6, x7, x8] := by
    match cs, hl with
    | [x0, x1, x2, x3, x4, x5, x6, x7, x8], _ => exact ⟨x0, x1, x2, x3, x4, x5, x6, x7, x8, rfl⟩
  have cI : Tryd.prog.cellsOf 3 = 1 := by kernel_rfl
  have cS : Tryd.prog.cellsOf 9 = 1 := by kernel_rfl
  have cB : Tryd.prog.cellsOf 29 = 1 := by kernel_rfl
  have cF : Tryd.prog.cellsOf 41 = 1 := by kernel_rfl
  have cN : Tryd.prog.cellsOf 42 = 1 := by kernel_rfl
  have e0 : DataW.trod enc Tryd.prog W 0 (fun _ => true) true m 3 (([x0, x1, x2, x3, x4, x5, x6, x7, x8].drop 0).take (Tryd.prog.cellsOf 3)) = ys[0]? := hel 0 _ rfl
  have e1 : DataW.trod enc Tryd.prog W 0 (fun _ => true) true m 3 (([x0, x1, x2, x3, x4, x5, x6, x7, x8].drop 1).take (Tryd.prog.cellsOf 3)) = ys[1]? := hel 1 _ rfl
  have e2 : DataW.trod enc Tryd.prog W 0 (fun _ => true) true m 9 (([x0, x1, x2, x3, x4, x5, x6, x7, x8].drop 2).take (Tryd.prog.cellsOf 9)) = ys[2]? := hel 2 _ rfl
  have e3 : DataW.trod enc Tryd.prog W 0 (fun _ => true) true m 9 (([x0, x1, x2, x3, x4, x5, x6, x7, x8].drop 3).take (Tryd.prog.cellsOf 9)) = ys[3]? := hel 3 _ rfl
  have e4 : DataW.trod enc Tryd.prog W 0 (fun _ => true) true m 3 (([x0, x1, x2, x3, x4, x5, x6, x7, x8].drop 4).take (Tryd.prog.cellsOf 3)) = ys[4]? := hel 4 _ rfl
  have e5 : DataW.trod enc Tryd.prog W 0 (fun _ => true) true m 3 (([x0, x1, x2, x3, x4, x5, x6, x7, x8].drop 5).take (Tryd.prog.cellsOf 3)) = ys[5]? := hel 5 _ rfl
  have e6 : DataW.trod enc Tryd.prog W 0 (fun _ => true) true m 29 (([x0, x1, x2, x3, x4, x5, x6, x7, x8].drop 6).take (Tryd.prog.cellsOf 29)) = ys[6]? := hel 6 _ rfl
  have e7 : DataW.trod enc Tryd.prog W 0 (fun _ => true) true m 41 (([x0, x1, x2, x3, x4, x5, x6, x7, x8].drop 7).take (Tryd.prog.cellsOf 41)) = ys[7]? := hel 7 _ rfl
  have e8 : DataW.trod enc Tryd.prog W 0 (fun _ => true) true m 42 (([x0, x1, x2, x3, x4, x5, x6, x7, x8].drop 8).take (Tryd.prog.cellsOf 42)) = ys[8]? := hel 8 _ rfl
  rw [cI, List.getElem?_eq_getElem (by omega)] at e0 e1 e4 e5
  rw [cS, List.getElem?_eq_getElem (by omega)] at e2 e3
  rw [cB, List.getElem?_eq_getElem (by omega)] at e6
  rw [cF, List.getElem?_eq_getElem (by omega)] at e7
  rw [cN, List.getElem?_eq_getElem (by omega)] at e8
  obtain ⟨k0, f0, _, _⟩ := DataW.trod_int Tryd.underlying3 e0
  obtain ⟨k1, f1, _, _⟩ := DataW.trod_int Tryd.underlying3 e1
  obtain ⟨k2, f2, _, _⟩ := DataW.trod_string Tryd.underlying9 e2
  obtain ⟨k3, f3, _, _⟩ := DataW.trod_string Tryd.underlying9 e3
  obtain ⟨k4, f4, _, _⟩ := DataW.trod_int Tryd.underlying3 e4
  obtain ⟨k5, f5, _, _⟩ := DataW.trod_int Tryd.underlying3 e5
  obtain ⟨k6, f6, g6⟩ := slice_one Tryd.underlying29 e6
  obtain ⟨k7, f7, g7⟩ := slice_one Tryd.underlying41 e7
  obtain ⟨k8, f8, g8⟩ := slice_one Tryd.underlying42 e8
  simp only [List.drop_zero, List.take_succ_cons, List.take_zero, List.cons.injEq, and_true, List.drop_succ_cons] at f0 f1 f2 f3 f4 f5 f6 f7 f8
  refine ⟨⟨k0, k1, k2, k3, k4, k5, k6, k7, k8⟩, ?_, ?_⟩
  · rw [f0, f1, f2, f3, f4, f5, f6, f7, f8]; rfl
  · refine List.all_eq_true.2 (fun u hu => ?_)
    unfold opc at hu
    simp only [List.mem_cons, List.not_mem_nil, or_false] at hu
    rcases hu with rfl | rfl | rfl | rfl | rfl | rfl | rfl | rfl | rfl
    all_goals first
      | rfl
      | exact g6
      | exact g7
      | exact g8
set_option maxRecDepth 100000 in
/-- a script as an argument -/
theorem ops_open {H : Type} {enc : TypeId × Value → H} {W : World} {v : Value} {d : DataW H} {ps : List MemPlace} {base : Nat}
    (hval : Value.okWide Tryd.prog W .any base 39 v) (h : DataW.Trod enc Tryd.prog W 0 (fun _ => true) true 39 v d ps) : ∃ a ts c, v = .slice a ts.length c ∧ OpSl W a ts c := by
  obtain ⟨a, len, cap, rfl⟩ := okWide_slice Tryd.underlying39 hval
  obtain ⟨fuel, hf⟩ := h
  have hf' : DataW.trod enc Tryd.prog W 0 (fun _ => true) true fuel 39 [.slice a len cap] = some (d, ps) := hf
  rcases DataW.trod_slice Tryd.underlying39 hf' with ⟨e1, _⟩ | ⟨ad, l2, c2, elems, rest, n, _, e1, hx, _, hlc, _, hel0, hel, _, _⟩
  · simp only [List.cons.injEq, Value.slice.injEq, and_true] at e1
    obtain ⟨rfl, rfl, rfl⟩ := e1
    exact ⟨none, [], 0, rfl, Nat.le_refl _, (fun i hi => by cases hi), fun p hp => by cases hp⟩
  · simp only [List.cons.injEq, Value.slice.injEq, and_true] at e1
    obtain ⟨rfl, rfl, rfl⟩ := e1
    rw [cellsOp] at hel
    have key : ∀ i, i < len → ∃ o : OP, W.cells? 0 (ad.add (i * 9)) 9 = some (opc o) ∧ (opc o).all (·.oneCell') = true := by
      intro i hi
      have h1 := hel i hi
      rw [List.getElem?_eq_getElem (by omega), Option.bind_eq_some_iff] at h1
      obtain ⟨cs, hcs, hy⟩ := h1
      obtain ⟨t, rfl, h2⟩ := op_open hy
      exact ⟨t, hcs, h2⟩
    have mk : ∀ k, k ≤ len → ∃ ts : List OP, ts.length = k ∧ ∀ i (hi : i < ts.length), W.cells? 0 (ad.add (i * 9)) 9 = some (opc ts[i]) ∧ (opc ts[i]).all (·.oneCell') = true := by
      intro k
      induction k with
      | zero => exact fun _ => ⟨[], rfl, fun i hi => by cases hi⟩
      | succ k ih =>
        intro hk
        obtain ⟨ts, hl, ht⟩ := ih (by omega)
        obtain ⟨t, hk2⟩ := key k (by omega)
        refine ⟨ts ++ [t], by rw [List.length_append, hl]; rfl, fun i hi => ?_⟩
        by_cases hik : i < ts.length
        · rw [List.getElem_append_left hik]
          exact ht i hik
        · have e : i = k := by rw [List.length_append] at hi; simp at hi; omega
          subst e
          rw [List.getElem_append_right (by omega)]
          simp only [hl, Nat.sub_self, List.getElem_cons_zero]
          exact hk2
    obtain ⟨ts, hl, ht⟩ := mk len (Nat.le_refl _)
    refine ⟨some ad, ts, cap, by rw [hl], by rw [hl]; exact hlc, fun i hi => ?_, fun p hp => ?_⟩
    · have hcs := (ht i hi).1
      obtain ⟨b, off, sp⟩ := ad
      have hsp : sp = none := by
        have h2 := (World.cells?_some (ht 0 (by omega)).1).2.2 0 (by decide)
        rw [Nat.zero_mul] at h2
        have h3 : W.cell? (((⟨b, off, sp⟩ : Addr).add 0).add 0) = some (.int .i64 (ts[0]'(by omega)).kd) := h2.trans rfl
        have h4 := plain_ofO h3
        unfold Addr.add at h4
        rw [if_pos rfl] at h4
        exact h4
      subst hsp
      refine ⟨b, off, rfl, fun j u hu => ?_⟩
      have hj : j < 9 := (List.getElem?_eq_some_iff.1 hu).1
      have h0 := (World.cells?_some hcs).2.2 j hj
      rw [Addr.add_lit, Addr.add_lit] at h0
      rw [h0]
      exact hu
    · obtain ⟨i, hi, rfl⟩ := List.getElem_of_mem hp
      exact (ht i hi).2
end Go.Proofs.YtnmknidhpjjbgaaDoor
