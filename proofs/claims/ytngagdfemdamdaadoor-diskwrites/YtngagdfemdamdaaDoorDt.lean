import Derived.Test.YtngagdfemdamdaaDoorDr
import Derived.SizedLaws
import Derived.ProofKit
import Derived.OpenShut
import Derived.ChangeSame
import Derived.WideKeyArgs
import Derived.DataReads
namespace Go.Proofs.YtngagdfemdamdaaDoor
open Go.ChangeShapes Go.WideShapes Go.ChangeAt Go.WideMaps Go.WideElems Go.RowKit TextNum
set_option maxRecDepth 100000 in
theorem cells8 : Tryd.prog.cellsOf 5 = 1 := by kernel_rfl
set_option maxRecDepth 100000 in
theorem bytes8 : Tryd.prog.bytesOf 5 = 1 := by kernel_rfl
set_option maxRecDepth 100000 in
theorem cellsPt : Tryd.prog.cellsOf 31 = 2 := by kernel_rfl
theorem plain_of {W : World} {ad : Addr} {v : Value} (h : W.cell? (ad.add 0) = some v) : ad.spot = none := by
  have e : ad.add 0 = ad := by unfold Addr.add; rw [if_pos rfl]
  rw [e] at h
  obtain ⟨b, off, sp⟩ := ad
  cases sp with
  | none => rfl
  | some s => exfalso; simp only [World.cell?] at h; split at h <;> simp at h
theorem mem_all {H : Type} {P : Program} {e : TypeId} : ∀ {l : List (DataW H)} {j : Nat} {d : DataW H}, l[j]? = some d → ∀ n ∈ d.weights P e, n ∈ DataW.weightsAll P e l
  | d0 :: l, 0, d, hd, n, hn => by
    simp only [List.getElem?_cons_zero, Option.some.injEq] at hd
    subst hd
    simp only [DataW.weightsAll, List.mem_append]
    exact .inl hn
  | d0 :: l, j + 1, d, hd, n, hn => by
    simp only [List.getElem?_cons_succ] at hd
    simp only [DataW.weightsAll, List.mem_append]
    exact .inr (mem_all hd n hn)
  | [], _, _, hd, _, _ => by simp at hd
theorem sb_open {H : Type} {enc : TypeId × Value → H} {W : World} {fuel N : Nat} {l : List Value} {d : DataW H} {ps : List MemPlace}
    (hf' : DataW.trod enc Tryd.prog W 0 (fun _ => true) true fuel 29 l = some (d, ps)) (hN : ∀ n ∈ d.weights Tryd.prog 29, n ≤ N) :
    ∃ v bs, l = [v] ∧ Sb W v bs ∧ bs.length ≤ N := by
  rcases open_ints Tryd.underlying29 Tryd.underlying5 cells8 hf' with ⟨e1, _⟩ | ⟨ad, len, cap, zs, e1, _, hlc, hcm, hzl, hx, hcell, hwf⟩
  · exact ⟨_, [], e1, ⟨none, 0, rfl, Nat.le_refl _, by simp [maxLen], fun _ => ⟨rfl, rfl⟩, (fun _ e => by cases e)⟩, Nat.zero_le _⟩
  · simp only [if_true] at hzl
    injection hx with hd _
    have hlen : ((zs.take len).map fun z => UInt8.ofNat z.toNat).length = len := by
      rw [List.length_map, List.length_take, Nat.min_eq_left (by omega)]
    refine ⟨_, (zs.take len).map fun z => UInt8.ofNat z.toNat, e1, ⟨some ad, cap, by rw [hlen], by rw [hlen]; omega, hcm, (fun e => by cases e), fun ad' e => ?_⟩, ?_⟩
    · obtain rfl := Option.some.inj e
      refine ⟨fun h0 => ?_, fun j u hj => ?_⟩
      · have h1 : 0 < len := by
          rcases Nat.eq_zero_or_pos len with h | h
          · exfalso; apply h0; subst h; simp
          · exact h
        exact plain_of (hcell 0 (by omega))
      · have hj1 : j < len := by
          have := (List.getElem?_eq_some_iff.1 hj).1
          rw [cb_length, hlen] at this
          exact this
        have hj2 : j < zs.length := by omega
        have hz := hwf zs[j] (List.getElem_mem hj2)
        have hb : 0 ≤ zs[j] ∧ zs[j] ≤ 255 := by
          simpa [Lit.wf, IntKind.min, IntKind.max, IntKind.signed, IntKind.bits] using hz
        have h1 := hcell j hj2
        rw [cb_get (by rw [hlen]; exact hj1)] at hj
        rw [h1, ← hj]
        simp only [List.getElem_map, List.getElem_take, List.getD_eq_getElem?_getD, List.getElem?_eq_getElem hj2, Option.getD_some]
        congr 2
        rw [UInt8.toNat_ofNat', Nat.mod_eq_of_lt (by omega)]
        omega
    · rw [hlen]
      have h1 := hN ((lits (H := H) .u8 (zs.take len)).length + (lits (H := H) .u8 (zs.drop len)).length) (by
        rw [hd]
        simp only [DataW.weights, Tryd.underlying29, bytes8, Nat.mul_one]
        exact List.mem_cons_self)
      have e : (lits (H := H) .u8 (zs.take len)).length = (zs.take len).length := by simp [lits]
      rw [e, List.length_take, Nat.min_eq_left (by omega)] at h1
      omega
set_option maxRecDepth 100000 in
theorem pt_open {H : Type} {enc : TypeId × Value → H} {W : World} {fuel N : Nat} {cs : List Value} {d : DataW H} {ps : List MemPlace}
    (hf : DataW.trod enc Tryd.prog W 0 (fun _ => true) true fuel 31 cs = some (d, ps)) (hN : ∀ n ∈ d.weights Tryd.prog 31, n ≤ N) :
    ∃ t : PT, cs = [.int .i64 t.at_, t.vd] ∧ Sb W t.vd t.ds ∧ t.ds.length ≤ N ∧ -9223372036854775808 ≤ t.at_ ∧ t.at_ ≤ 9223372036854775807 := by
  obtain ⟨ys, m, _, hx, hl, hn, hel⟩ := DataW.trod_struct Tryd.underlying31 hf
  rw [cellsPt] at hl
  have hn3 : ys.length = 2 := hn
  obtain ⟨x, y, rfl⟩ : ∃ x y, cs = [x, y] := by
    match cs, hl with
    | [x, y], _ => exact ⟨x, y, rfl⟩
  injection hx with hd _
  have e0 : DataW.trod enc Tryd.prog W 0 (fun _ => true) true m 3 (([x, y].drop 0).take (Tryd.prog.cellsOf 3)) = ys[0]? := hel 0 _ rfl
  have e1 : DataW.trod enc Tryd.prog W 0 (fun _ => true) true m 29 (([x, y].drop 1).take (Tryd.prog.cellsOf 29)) = ys[1]? := hel 1 _ rfl
  rw [show Tryd.prog.cellsOf 3 = 1 by kernel_rfl, List.getElem?_eq_getElem (by omega)] at e0
  rw [show Tryd.prog.cellsOf 29 = 1 by kernel_rfl, List.getElem?_eq_getElem (by omega)] at e1
  obtain ⟨k, f0, _, w0⟩ := DataW.trod_int Tryd.underlying3 e0
  have hw : ∀ n ∈ (ys[1]).1.weights Tryd.prog 29, n ≤ N := fun n hn1 => hN n (by
    rw [hd]
    simp only [DataW.weights, Tryd.underlying31]
    exact DataW.weights_mem_each (j := 1) (t := 29) (d := (ys[1]).1) rfl (by rw [List.getElem?_map, List.getElem?_eq_getElem (by omega)]; rfl) n hn1)
  obtain ⟨v, bs, f1, hS, hB⟩ := sb_open (d := (ys[1]).1) (ps := (ys[1]).2) e1 hw
  have hz : -9223372036854775808 ≤ k ∧ k ≤ 9223372036854775807 := by
    simpa [Lit.wf, IntKind.min, IntKind.max, IntKind.signed, IntKind.bits] using w0
  refine ⟨⟨k, v, bs⟩, ?_, hS, hB, hz.1, hz.2⟩
  simp only [List.drop_zero, List.take_succ_cons, List.take_zero, List.cons.injEq, and_true, List.drop_succ_cons] at f0 f1
  rw [f0, f1]
set_option maxRecDepth 100000 in
/-- the patches as an argument -/
theorem ps_open {H : Type} {enc : TypeId × Value → H} {W : World} {v : Value} {d : DataW H} {ps : List MemPlace} {base : Nat}
    (hval : Value.okWide Tryd.prog W .any base 22 v) (h : DataW.Trod enc Tryd.prog W 0 (fun _ => true) true 22 v d ps) (hN : ∀ n ∈ d.weights Tryd.prog 22, n ≤ 140737488355000) : ∃ ts, PSl W v ts := by
  obtain ⟨a, len, cap, rfl⟩ := okWide_slice Tryd.underlying22 hval
  obtain ⟨fuel, hf⟩ := h
  have hf' : DataW.trod enc Tryd.prog W 0 (fun _ => true) true fuel 22 [.slice a len cap] = some (d, ps) := hf
  rcases DataW.trod_slice Tryd.underlying22 hf' with ⟨e1, _⟩ | ⟨ad, l2, c2, elems, rest, n, _, e1, hx, _, hlc, _, hel0, hel, _, _⟩
  · simp only [List.cons.injEq, Value.slice.injEq, and_true] at e1
    obtain ⟨rfl, rfl, rfl⟩ := e1
    exact ⟨[], ⟨none, 0, rfl, Nat.le_refl _, fun i hi => by cases hi⟩, fun p hp => by cases hp⟩
  · simp only [List.cons.injEq, Value.slice.injEq, and_true] at e1
    obtain ⟨rfl, rfl, rfl⟩ := e1
    injection hx with hd _
    rw [cellsPt] at hel
    have key : ∀ i, i < len → ∃ t : PT, W.cells? 0 (ad.add (i * 2)) 2 = some [.int .i64 t.at_, t.vd] ∧ Sb W t.vd t.ds ∧ t.ds.length ≤ 140737488355000 ∧ -9223372036854775808 ≤ t.at_ ∧ t.at_ ≤ 9223372036854775807 := by
      intro i hi
      have h1 := hel i hi
      rw [List.getElem?_eq_getElem (by omega), Option.bind_eq_some_iff] at h1
      obtain ⟨cs, hcs, hy⟩ := h1
      obtain ⟨t, rfl, h2, h3, h4, h5⟩ := pt_open (N := 140737488355000) hy (fun n hn1 => hN n (by
        rw [hd]
        simp only [DataW.weights, Tryd.underlying22]
        refine List.mem_cons_of_mem _ (List.mem_append_left _ (mem_all (j := i) (d := (elems[i]'(by omega)).1) (by rw [List.getElem?_map, List.getElem?_eq_getElem (by omega)]; rfl) n hn1))))
      exact ⟨t, hcs, h2, h3, h4, h5⟩
    have mk : ∀ k, k ≤ len → ∃ ts : List PT, ts.length = k ∧ ∀ i (hi : i < ts.length), W.cells? 0 (ad.add (i * 2)) 2 = some [.int .i64 ts[i].at_, ts[i].vd] ∧ Sb W ts[i].vd ts[i].ds ∧ ts[i].ds.length ≤ 140737488355000 ∧ -9223372036854775808 ≤ ts[i].at_ ∧ ts[i].at_ ≤ 9223372036854775807 := by
      intro k
      induction k with
      | zero => exact fun _ => ⟨[], rfl, fun i hi => by cases hi⟩
      | succ k ih =>
        intro hk
        obtain ⟨ts, hl, ht⟩ := ih (by omega)
        obtain ⟨t, hk2⟩ := key k (by omega)
        refine ⟨ts ++ [t], by rw [List.length_append, hl]; rfl, fun i hi => ?_⟩
        by_cases hik : i < ts.length
        · rw [List.getElem_append_left hik]
          exact ht i hik
        · have e : i = k := by rw [List.length_append] at hi; simp at hi; omega
          subst e
          rw [List.getElem_append_right (by omega)]
          simp only [hl, Nat.sub_self, List.getElem_cons_zero]
          exact hk2
    obtain ⟨ts, hl, ht⟩ := mk len (Nat.le_refl _)
    refine ⟨ts, ⟨some ad, cap, by rw [hl], by rw [hl]; exact hlc, fun i hi => ?_⟩, fun p hp => ?_⟩
    · have hcs := (ht i hi).1
      have h0 := (World.cells?_some hcs).2.2 0 (by decide)
      have h1 := (World.cells?_some hcs).2.2 1 (by decide)
      obtain ⟨b, off, sp⟩ := ad
      have hsp : sp = none := by
        have h2 := (World.cells?_some (ht 0 (by omega)).1).2.2 0 (by decide)
        rw [Nat.zero_mul] at h2
        have h3 : W.cell? (((⟨b, off, sp⟩ : Addr).add 0).add 0) = some (.int .i64 (ts[0]'(by omega)).at_) := h2.trans rfl
        have h4 := plain_of h3
        unfold Addr.add at h4
        rw [if_pos rfl] at h4
        exact h4
      subst hsp
      rw [Addr.add_lit, Addr.add_lit] at h0 h1
      exact ⟨b, off, rfl, h0.trans rfl, h1.trans rfl⟩
    · obtain ⟨i, hi, rfl⟩ := List.getElem_of_mem hp
      exact (ht i hi).2
end Go.Proofs.YtngagdfemdamdaaDoor
