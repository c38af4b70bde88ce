import Derived.Test.YtaibjeehjhlicaaGreatDoorQap
import Derived.SizedLaws
import Derived.ProofKit
import Derived.OpenShut
import Derived.ChangeSame
import Derived.WideKeyArgs
import Derived.DataReads
import Derived.Test.YtaibjeehjhlicaaGreatDoorQaz
namespace Go.Proofs.YtaibjeehjhlicaaGreatDoor
open Go.ChangeShapes Go.WideShapes Go.ChangeAt Go.WideMaps Go.WideElems Go.RowKit TextNum
set_option maxRecDepth 100000 in
theorem cellsOp : Tryz.prog.cellsOf 55 = 9 := by kernel_rfl
theorem plain_ofO {W : World} {ad : Addr} {v : Value} (h : W.cell? (ad.add 0) = some v) : ad.spot = none := by
  have e : ad.add 0 = ad := by unfold Addr.add; rw [if_pos rfl]
  rw [e] at h
  obtain ⟨b, off, sp⟩ := ad
  cases sp with
  | none => rfl
  | some s => exfalso; simp only [World.cell?] at h; split at h <;> simp at h
theorem slice_one {H : Type} {enc : TypeId × Value → H} {W : World} {fuel : Nat} {t e : TypeId} {cs : List Value} {x : DataW H × List MemPlace} (ht : Tryz.prog.underlying t = some (.slice e)) (h : DataW.trod enc Tryz.prog W 0 (fun _ => true) true fuel t cs = some x) : ∃ v, cs = [v] ∧ v.oneCell' = true := by
  rcases DataW.trod_slice ht h with ⟨e1, _⟩ | ⟨a, l, c, _, _, _, _, e1, _⟩
  · exact ⟨_, e1, rfl⟩
  · exact ⟨_, e1, rfl⟩
set_option maxRecDepth 100000 in
theorem op_open {H : Type} {enc : TypeId × Value → H} {W : World} {fuel : Nat} {cs : List Value} {d : DataW H} {ps : List MemPlace}
    (hf : DataW.trod enc Tryz.prog W 0 (fun _ => true) true fuel 55 cs = some (d, ps)) : ∃ o : OP, cs = opc o ∧ (opc o).all (·.oneCell') = true := by
  obtain ⟨ys, m, _, hx, hl, hn, hel⟩ := DataW.trod_struct Tryz.underlying55 hf
  rw [cellsOp] at hl
  have hn3 : ys.length = 9 := hn
  obtain ⟨x0, x1, x2, x3, x4, x5, x6, x7, x8, rfl⟩ : ∃ x0 x1 x2 x3 x4 x5 x6 x7 x8, cs = [x0, x1, x2, x3, x4, x5, x6, x7, x8] := by
    match cs, hl with
    | [x0, x1, x2, x3, x4, x5, x6, x7, x8], _ => exact ⟨x0, x1, x2, x3, x4, x5, x6, x7, x8, rfl⟩
  have cI : Tryz.prog.cellsOf 3 = 1 := by kernel_rfl
  have cS : Tryz.prog.cellsOf 9 = 1 := by kernel_rfl
  have cB : Tryz.prog.cellsOf 41 = 1 := by kernel_rfl
  have cF : Tryz.prog.cellsOf 53 = 1 := by kernel_rfl
  have cN : Tryz.prog.cellsOf 23 = 1 := by kernel_rfl
  have e0 : DataW.trod enc Tryz.prog W 0 (fun _ => true) true m 3 (([x0, x1, x2, x3, x4, x5, x6, x7, x8].drop 0).take (Tryz.prog.cellsOf 3)) = ys[0]? := hel 0 _ rfl
  have e1 : DataW.trod enc Tryz.prog W 0 (fun _ => true) true m 3 (([x0, x1, x2, x3, x4, x5, x6, x7, x8].drop 1).take (Tryz.prog.cellsOf 3)) = ys[1]? := hel 1 _ rfl
  have e2 : DataW.trod enc Tryz.prog W 0 (fun _ => true) true m 9 (([x0, x1, x2, x3, x4, x5, x6, x7, x8].drop 2).take (Tryz.prog.cellsOf 9)) = ys[2]? := hel 2 _ rfl
  have e3 : DataW.trod enc Tryz.prog W 0 (fun _ => true) true m 9 (([x0, x1, x2, x3, x4, x5, x6, x7, x8].drop 3).take (Tryz.prog.cellsOf 9)) = ys[3]? := hel 3 _ rfl
  have e4 : DataW.trod enc Tryz.prog W 0 (fun _ => true) true m 3 (([x0, x1, x2, x3, x4, x5, x6, x7, x8].drop 4).take (Tryz.prog.cellsOf 3)) = ys[4]? := hel 4 _ rfl
  have e5 : DataW.trod enc Tryz.prog W 0 (fun _ => true) true m 3 (([x0, x1, x2, x3, x4, x5, x6, x7, x8].drop 5).take (Tryz.prog.cellsOf 3)) = ys[5]? := hel 5 _ rfl
  have e6 : DataW.trod enc Tryz.prog W 0 (fun _ => true) true m 41 (([x0, x1, x2, x3, x4, x5, x6, x7, x8].drop 6).take (Tryz.prog.cellsOf 41)) = ys[6]? := hel 6 _ rfl
  have e7 : DataW.trod enc Tryz.prog W 0 (fun _ => true) true m 53 (([x0, x1, x2, x3, x4, x5, x6, x7, x8].drop 7).take (Tryz.prog.cellsOf 53)) = ys[7]? := hel 7 _ rfl
  have e8 : DataW.trod enc Tryz.prog W 0 (fun _ => true) true m 23 (([x0, x1, x2, x3, x4, x5, x6, x7, x8].drop 8).take (Tryz.prog.cellsOf 23)) = ys[8]? := hel 8 _ rfl
  rw [cI, List.getElem?_eq_getElem (by omega)] at e0 e1 e4 e5
  rw [cS, List.getElem?_eq_getElem (by omega)] at e2 e3
  rw [cB, List.getElem?_eq_getElem (by omega)] at e6
  rw [cF, List.getElem?_eq_getElem (by omega)] at e7
  rw [cN, List.getElem?_eq_getElem (by omega)] at e8
  obtain ⟨k0, f0, _, _⟩ := DataW.trod_int Tryz.underlying3 e0
  obtain ⟨k1, f1, _, _⟩ := DataW.trod_int Tryz.underlying3 e1
  obtain ⟨k2, f2, _, _⟩ := DataW.trod_string Tryz.underlying9 e2
  obtain ⟨k3, f3, _, _⟩ := DataW.trod_string Tryz.underlying9 e3
  obtain ⟨k4, f4, _, _⟩ := DataW.trod_int Tryz.underlying3 e4
  obtain ⟨k5, f5, _, _⟩ := DataW.trod_int Tryz.underlying3 e5
  obtain ⟨k6, f6, g6⟩ := slice_one Tryz.underlying41 e6
  obtain ⟨k7, f7, g7⟩ := slice_one Tryz.underlying53 e7
  obtain ⟨k8, f8, g8⟩ := slice_one Tryz.underlying23 e8
  simp only [List.drop_zero, List.take_succ_cons, List.take_zero, List.cons.injEq, and_true, List.drop_succ_cons] at f0 f1 f2 f3 f4 f5 f6 f7 f8
  refine ⟨⟨k0, k1, k2, k3, k4, k5, k6, k7, k8⟩, ?_, ?_⟩
  · rw [f0, f1, f2, f3, f4, f5, f6, f7, f8]; rfl
  · refine List.all_eq_true.2 (fun u hu => ?_)
    unfold opc at hu
    simp only [List.mem_cons, List.not_mem_nil, or_false] at hu
    rcases hu with rfl | rfl | rfl | rfl | rfl | rfl | rfl | rfl | rfl
    all_goals first
      | rfl
      | exact g6
      | exact g7
      | exact g8
set_option maxRecDepth 100000 in
/-- a script as an argument -/
theorem ops_open {H : Type} {enc : TypeId × Value → H} {W : World} {v : Value} {d : DataW H} {ps : List MemPlace} {base : Nat}
    (hval : Value.okWide Tryz.prog W .any base 22 v) (h : DataW.Trod enc Tryz.prog W 0 (fun _ => true) true 22 v d ps) : ∃ a ts c, v = .slice a ts.length c ∧ OpSl W a ts c := by
  obtain ⟨a, len, cap, rfl⟩ := okWide_slice Tryz.underlying22 hval
  obtain ⟨fuel, hf⟩ := h
  have hf' : DataW.trod enc Tryz.prog W 0 (fun _ => true) true fuel 22 [.slice a len cap] = some (d, ps) := hf
  rcases DataW.trod_slice Tryz.underlying22 hf' with ⟨e1, _⟩ | ⟨ad, l2, c2, elems, rest, n, _, e1, hx, _, hlc, _, hel0, hel, _, _⟩
  · simp only [List.cons.injEq, Value.slice.injEq, and_true] at e1
    obtain ⟨rfl, rfl, rfl⟩ := e1
    exact ⟨none, [], 0, rfl, Nat.le_refl _, (fun i hi => by cases hi), fun p hp => by cases hp⟩
  · simp only [List.cons.injEq, Value.slice.injEq, and_true] at e1
    obtain ⟨rfl, rfl, rfl⟩ := e1
    rw [cellsOp] at hel
    have key : ∀ i, i < len → ∃ o : OP, W.cells? 0 (ad.add (i * 9)) 9 = some (opc o) ∧ (opc o).all (·.oneCell') = true := by
      intro i hi
      have h1 := hel i hi
      rw [List.getElem?_eq_getElem (by omega), Option.bind_eq_some_iff] at h1
      obtain ⟨cs, hcs, hy⟩ := h1
      obtain ⟨t, rfl, h2⟩ := op_open hy
      exact ⟨t, hcs, h2⟩
    have mk : ∀ k, k ≤ len → ∃ ts : List OP, ts.length = k ∧ ∀ i (hi : i < ts.length), W.cells? 0 (ad.add (i * 9)) 9 = some (opc ts[i]) ∧ (opc ts[i]).all (·.oneCell') = true := by
      intro k
      induction k with
      | zero => exact fun _ => ⟨[], rfl, fun i hi => by cases hi⟩
      | succ k ih =>
        intro hk
        obtain ⟨ts, hl, ht⟩ := ih (by omega)
        obtain ⟨t, hk2⟩ := key k (by omega)
        refine ⟨ts ++ [t], by rw [List.length_append, hl]; rfl, fun i hi => ?_⟩
        by_cases hik : i < ts.length
        · rw [List.getElem_append_left hik]
          exact ht i hik
        · have e : i = k := by rw [List.length_append] at hi; simp at hi; omega
          subst e
          rw [List.getElem_append_right (by omega)]
          simp only [hl, Nat.sub_self, List.getElem_cons_zero]
          exact hk2
    obtain ⟨ts, hl, ht⟩ := mk len (Nat.le_refl _)
    refine ⟨some ad, ts, cap, by rw [hl], by rw [hl]; exact hlc, fun i hi => ?_, fun p hp => ?_⟩
    · have hcs := (ht i hi).1
      obtain ⟨b, off, sp⟩ := ad
      have hsp : sp = none := by
        have h2 := (World.cells?_some (ht 0 (by omega)).1).2.2 0 (by decide)
        rw [Nat.zero_mul] at h2
        have h3 : W.cell? (((⟨b, off, sp⟩ : Addr).add 0).add 0) = some (.int .i64 (ts[0]'(by omega)).kd) := h2.trans rfl
        have h4 := plain_ofO h3
        unfold Addr.add at h4
        rw [if_pos rfl] at h4
        exact h4
      subst hsp
      refine ⟨b, off, rfl, fun j u hu => ?_⟩
      have hj : j < 9 := (List.getElem?_eq_some_iff.1 hu).1
      have h0 := (World.cells?_some hcs).2.2 j hj
      rw [Addr.add_lit, Addr.add_lit] at h0
      rw [h0]
      exact hu
    · obtain ⟨i, hi, rfl⟩ := List.getElem_of_mem hp
      exact (ht i hi).2
end Go.Proofs.YtaibjeehjhlicaaGreatDoor
namespace Go.Proofs.YtaibjeehjhlicaaGreatDoor
open Go.ChangeShapes Go.WideShapes Go.ChangeAt Go.WideMaps Go.WideElems Go.RowKit TextNum
set_option maxRecDepth 100000 in
theorem cells8 : Tryz.prog.cellsOf 5 = 1 := by kernel_rfl
set_option maxRecDepth 100000 in
theorem bytes8 : Tryz.prog.bytesOf 5 = 1 := by kernel_rfl
theorem plain_of {W : World} {ad : Addr} {v : Value} (h : W.cell? (ad.add 0) = some v) : ad.spot = none := by
  have e : ad.add 0 = ad := by unfold Addr.add; rw [if_pos rfl]
  rw [e] at h
  obtain ⟨b, off, sp⟩ := ad
  cases sp with
  | none => rfl
  | some s => exfalso; simp only [World.cell?] at h; split at h <;> simp at h
theorem mem_all {H : Type} {P : Program} {e : TypeId} : ∀ {l : List (DataW H)} {j : Nat} {d : DataW H}, l[j]? = some d → ∀ n ∈ d.weights P e, n ∈ DataW.weightsAll P e l
  | d0 :: l, 0, d, hd, n, hn => by
    simp only [List.getElem?_cons_zero, Option.some.injEq] at hd
    subst hd
    simp only [DataW.weightsAll, List.mem_append]
    exact .inl hn
  | d0 :: l, j + 1, d, hd, n, hn => by
    simp only [List.getElem?_cons_succ] at hd
    simp only [DataW.weightsAll, List.mem_append]
    exact .inr (mem_all hd n hn)
  | [], _, _, hd, _, _ => by simp at hd
theorem sb_open {H : Type} {enc : TypeId × Value → H} {W : World} {fuel N : Nat} {l : List Value} {d : DataW H} {ps : List MemPlace}
    (hf' : DataW.trod enc Tryz.prog W 0 (fun _ => true) true fuel 41 l = some (d, ps)) (hN : ∀ n ∈ d.weights Tryz.prog 41, n ≤ N) :
    ∃ v bs, l = [v] ∧ Sb W v bs ∧ bs.length ≤ N := by
  rcases open_ints Tryz.underlying41 Tryz.underlying5 cells8 hf' with ⟨e1, _⟩ | ⟨ad, len, cap, zs, e1, _, hlc, hcm, hzl, hx, hcell, hwf⟩
  · exact ⟨_, [], e1, ⟨none, 0, rfl, Nat.le_refl _, by simp [maxLen], fun _ => ⟨rfl, rfl⟩, (fun _ e => by cases e)⟩, Nat.zero_le _⟩
  · simp only [if_true] at hzl
    injection hx with hd _
    have hlen : ((zs.take len).map fun z => UInt8.ofNat z.toNat).length = len := by
      rw [List.length_map, List.length_take, Nat.min_eq_left (by omega)]
    refine ⟨_, (zs.take len).map fun z => UInt8.ofNat z.toNat, e1, ⟨some ad, cap, by rw [hlen], by rw [hlen]; omega, hcm, (fun e => by cases e), fun ad' e => ?_⟩, ?_⟩
    · obtain rfl := Option.some.inj e
      refine ⟨fun h0 => ?_, fun j u hj => ?_⟩
      · have h1 : 0 < len := by
          rcases Nat.eq_zero_or_pos len with h | h
          · exfalso; apply h0; subst h; simp
          · exact h
        exact plain_of (hcell 0 (by omega))
      · have hj1 : j < len := by
          have := (List.getElem?_eq_some_iff.1 hj).1
          rw [cb_length, hlen] at this
          exact this
        have hj2 : j < zs.length := by omega
        have hz := hwf zs[j] (List.getElem_mem hj2)
        have hb : 0 ≤ zs[j] ∧ zs[j] ≤ 255 := by
          simpa [Lit.wf, IntKind.min, IntKind.max, IntKind.signed, IntKind.bits] using hz
        have h1 := hcell j hj2
        rw [cb_get (by rw [hlen]; exact hj1)] at hj
        rw [h1, ← hj]
        simp only [List.getElem_map, List.getElem_take, List.getD_eq_getElem?_getD, List.getElem?_eq_getElem hj2, Option.getD_some]
        congr 2
        rw [UInt8.toNat_ofNat', Nat.mod_eq_of_lt (by omega)]
        omega
    · rw [hlen]
      have h1 := hN ((lits (H := H) .u8 (zs.take len)).length + (lits (H := H) .u8 (zs.drop len)).length) (by
        rw [hd]
        simp only [DataW.weights, Tryz.underlying41, bytes8, Nat.mul_one]
        exact List.mem_cons_self)
      have e : (lits (H := H) .u8 (zs.take len)).length = (zs.take len).length := by simp [lits]
      rw [e, List.length_take, Nat.min_eq_left (by omega)] at h1
      omega
set_option maxRecDepth 100000 in
theorem cellsI : Tryz.prog.cellsOf 3 = 1 := by kernel_rfl
set_option maxRecDepth 100000 in
theorem bytesI : Tryz.prog.bytesOf 3 = 8 := by kernel_rfl
set_option maxRecDepth 100000 in
theorem cellsSl1 : Tryz.prog.cellsOf 41 = 1 := by kernel_rfl
set_option maxRecDepth 100000 in
/-- a list of ints as an argument -/
theorem si_open {H : Type} {enc : TypeId × Value → H} {W : World} {v : Value} {d : DataW H} {ps : List MemPlace} {base : Nat}
    (hval : Value.okWide Tryz.prog W .any base 23 v) (h : DataW.Trod enc Tryz.prog W 0 (fun _ => true) true 23 v d ps) (hN : ∀ n ∈ d.weights Tryz.prog 23, n ≤ 140737488355000) : ∃ cs, SI W v cs ∧ cs.length ≤ 17592186044416 := by
  obtain ⟨a, len, cap, rfl⟩ := okWide_slice Tryz.underlying23 hval
  obtain ⟨fuel, hf⟩ := h
  have hf' : DataW.trod enc Tryz.prog W 0 (fun _ => true) true fuel 23 [.slice a len cap] = some (d, ps) := hf
  rcases open_ints Tryz.underlying23 Tryz.underlying3 cellsI hf' with ⟨e1, _⟩ | ⟨ad, l2, c2, zs, e1, _, hlc, hcm, hzl, hx, hcell, hwf⟩
  · simp only [List.cons.injEq, Value.slice.injEq, and_true] at e1
    obtain ⟨rfl, rfl, rfl⟩ := e1
    exact ⟨[], ⟨none, 0, rfl, Nat.le_refl _, by simp [maxLen], fun _ => ⟨rfl, rfl⟩, (fun _ e => by cases e)⟩, Nat.zero_le _⟩
  · simp only [List.cons.injEq, Value.slice.injEq, and_true] at e1
    obtain ⟨rfl, rfl, rfl⟩ := e1
    simp only [if_true] at hzl
    injection hx with hd _
    have hlen : (zs.take len).length = len := by rw [List.length_take, Nat.min_eq_left (by omega)]
    refine ⟨zs.take len, ⟨some ad, cap, by rw [hlen], by rw [hlen]; omega, hcm, (fun e => by cases e), fun ad' e => ?_⟩, ?_⟩
    · obtain rfl := Option.some.inj e
      refine ⟨fun h0 => ?_, fun j u hj => ?_⟩
      · have h1 : 0 < len := by
          rcases Nat.eq_zero_or_pos len with h | h
          · exfalso; apply h0; subst h; simp
          · exact h
        exact plain_of (hcell 0 (by omega))
      · have hj1 : j < len := by
          have := (List.getElem?_eq_some_iff.1 hj).1
          rw [ci_length, hlen] at this
          exact this
        have hj2 : j < zs.length := by omega
        have h1 := hcell j hj2
        have h2 : (ci (zs.take len))[j]? = some (.int .i64 zs[j]) := by
          unfold ci
          rw [List.getElem?_map, List.getElem?_take_of_lt hj1, List.getElem?_eq_getElem hj2]
          rfl
        rw [h2] at hj
        rw [h1, ← hj]
        simp only [List.getD_eq_getElem?_getD, List.getElem?_eq_getElem hj2, Option.getD_some]
    · rw [hlen]
      have h1 := hN (((lits (H := H) .i64 (zs.take len)).length + (lits (H := H) .i64 (zs.drop len)).length) * 8) (by
        rw [hd]
        simp only [DataW.weights, Tryz.underlying23, bytesI]
        exact List.mem_cons_self)
      have e : (lits (H := H) .i64 (zs.take len)).length = (zs.take len).length := by simp [lits]
      rw [e, hlen] at h1
      omega
set_option maxRecDepth 100000 in
/-- lists of bytes as an argument -/
theorem sts_open {H : Type} {enc : TypeId × Value → H} {W : World} {v : Value} {d : DataW H} {ps : List MemPlace} {base : Nat}
    (hval : Value.okWide Tryz.prog W .any base 64 v) (h : DataW.Trod enc Tryz.prog W 0 (fun _ => true) true 64 v d ps) (hN : ∀ n ∈ d.weights Tryz.prog 64, n ≤ 140737488355000) : ∃ a ls c, v = .slice a (List.length ls) c ∧ STs W a ls c ∧ List.length ls ≤ 4611686018427387904 := by
  obtain ⟨a, len, cap, rfl⟩ := okWide_slice Tryz.underlying64 hval
  obtain ⟨fuel, hf⟩ := h
  have hf' : DataW.trod enc Tryz.prog W 0 (fun _ => true) true fuel 64 [.slice a len cap] = some (d, ps) := hf
  rcases DataW.trod_slice Tryz.underlying64 hf' with ⟨e1, _⟩ | ⟨ad, l2, c2, elems, rest, n, _, e1, hx, _, hlc, hcm, hel0, hel, _, _⟩
  · simp only [List.cons.injEq, Value.slice.injEq, and_true] at e1
    obtain ⟨rfl, rfl, rfl⟩ := e1
    exact ⟨none, [], 0, rfl, ⟨Nat.le_refl _, (fun i hi => by cases hi), (fun p hp => by cases hp)⟩, Nat.zero_le _⟩
  · simp only [List.cons.injEq, Value.slice.injEq, and_true] at e1
    obtain ⟨rfl, rfl, rfl⟩ := e1
    injection hx with hd _
    rw [cellsSl1] at hel
    have key : ∀ i, i < len → ∃ (u : Value) (l : List UInt8), W.cell? (ad.add i) = some u ∧ Sb W u l ∧ l.length ≤ 140737488355328 := by
      intro i hi
      have h1 := hel i hi
      rw [List.getElem?_eq_getElem (by omega), Option.bind_eq_some_iff] at h1
      obtain ⟨cs, hcs, hy⟩ := h1
      obtain ⟨u, l, rfl, h2, h3⟩ := sb_open (N := 140737488355000) hy (fun n hn1 => hN n (by
        rw [hd]
        simp only [DataW.weights, Tryz.underlying64]
        refine List.mem_cons_of_mem _ (List.mem_append_left _ (mem_all (j := i) (d := (elems[i]'(by omega)).1) (by rw [List.getElem?_map, List.getElem?_eq_getElem (by omega)]; rfl) n hn1))))
      have h4 := (World.cells?_some hcs).2.2 0 (by decide)
      rw [Nat.mul_one] at h4
      have e : (ad.add i).add 0 = ad.add i := by
        obtain ⟨b, off, sp⟩ := ad
        unfold Addr.add
        split <;> simp_all
      rw [e] at h4
      exact ⟨u, l, h4.trans rfl, h2, by omega⟩
    have mk : ∀ k, k ≤ len → ∃ ls : List (List UInt8), ls.length = k ∧ ∀ i (hi : i < ls.length), ∃ u, W.cell? (ad.add i) = some u ∧ Sb W u ls[i] ∧ (ls[i]).length ≤ 140737488355328 := by
      intro k
      induction k with
      | zero => exact fun _ => ⟨[], rfl, fun i hi => by cases hi⟩
      | succ k ih =>
        intro hk
        obtain ⟨ts, hl, ht⟩ := ih (by omega)
        obtain ⟨u, l, hk2⟩ := key k (by omega)
        refine ⟨ts ++ [l], by rw [List.length_append, hl]; rfl, fun i hi => ?_⟩
        by_cases hik : i < ts.length
        · rw [List.getElem_append_left hik]
          exact ht i hik
        · have e : i = k := by rw [List.length_append] at hi; simp at hi; omega
          subst e
          rw [List.getElem_append_right (by omega)]
          simp only [hl, Nat.sub_self, List.getElem_cons_zero]
          exact ⟨u, hk2⟩
    obtain ⟨ls, hl, ht⟩ := mk len (Nat.le_refl _)
    refine ⟨some ad, ls, cap, by rw [hl], ⟨by rw [hl]; exact hlc, fun i hi => ?_, fun p hp => ?_⟩, ?_⟩
    · obtain ⟨u, h1, h2, _⟩ := ht i hi
      obtain ⟨u0, h3, _⟩ := ht 0 (by omega)
      have hsp := plain_of h3
      obtain ⟨b, off, sp⟩ := ad
      obtain rfl : sp = none := hsp
      rw [Addr.add_lit] at h1
      exact ⟨b, off, u, rfl, h1, h2⟩
    · obtain ⟨i, hi, rfl⟩ := List.getElem_of_mem hp
      obtain ⟨_, _, _, h3⟩ := ht i hi
      exact h3
    · rw [hl]
      have h1 := hN ((elems.length + rest.length) * 24) (by
        rw [hd]
        simp only [DataW.weights, Tryz.underlying64, show Tryz.prog.bytesOf 41 = 24 by kernel_rfl, List.length_map]
        exact List.mem_cons_self)
      omega
end Go.Proofs.YtaibjeehjhlicaaGreatDoor
