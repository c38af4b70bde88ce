import Derived.Test.YtepakbghhnkcfaaDoorHs
import Derived.SizedLaws
import Derived.ProofKit
import Derived.OpenShut
import Derived.ChangeSame
import Derived.WideKeyArgs
import Derived.DataReads
namespace Go.Proofs.YtepakbghhnkcfaaDoor
open Go.ChangeShapes Go.WideShapes Go.ChangeAt Go.WideMaps Go.WideElems Go.RowKit TextNum
set_option maxRecDepth 100000 in
theorem cells8 : Tryd.prog.cellsOf 5 = 1 := by kernel_rfl
set_option maxRecDepth 100000 in
theorem bytes8 : Tryd.prog.bytesOf 5 = 1 := by kernel_rfl
theorem plain_of {W : World} {ad : Addr} {v : Value} (h : W.cell? (ad.add 0) = some v) : ad.spot = none := by
  have e : ad.add 0 = ad := by unfold Addr.add; rw [if_pos rfl]
  rw [e] at h
  obtain ⟨b, off, sp⟩ := ad
  cases sp with
  | none => rfl
  | some s => exfalso; simp only [World.cell?] at h; split at h <;> simp at h
theorem mem_all {H : Type} {P : Program} {e : TypeId} : ∀ {l : List (DataW H)} {j : Nat} {d : DataW H}, l[j]? = some d → ∀ n ∈ d.weights P e, n ∈ DataW.weightsAll P e l
  | d0 :: l, 0, d, hd, n, hn => by
    simp only [List.getElem?_cons_zero, Option.some.injEq] at hd
    subst hd
    simp only [DataW.weightsAll, List.mem_append]
    exact .inl hn
  | d0 :: l, j + 1, d, hd, n, hn => by
    simp only [List.getElem?_cons_succ] at hd
    simp only [DataW.weightsAll, List.mem_append]
    exact .inr (mem_all hd n hn)
  | [], _, _, hd, _, _ => by simp at hd
theorem sb_open {H : Type} {enc : TypeId × Value → H} {W : World} {fuel N : Nat} {l : List Value} {d : DataW H} {ps : List MemPlace}
    (hf' : DataW.trod enc Tryd.prog W 0 (fun _ => true) true fuel 29 l = some (d, ps)) (hN : ∀ n ∈ d.weights Tryd.prog 29, n ≤ N) :
    ∃ v bs, l = [v] ∧ Sb W v bs ∧ bs.length ≤ N := by
  rcases open_ints Tryd.underlying29 Tryd.underlying5 cells8 hf' with ⟨e1, _⟩ | ⟨ad, len, cap, zs, e1, _, hlc, hcm, hzl, hx, hcell, hwf⟩
  · exact ⟨_, [], e1, ⟨none, 0, rfl, Nat.le_refl _, by simp [maxLen], fun _ => ⟨rfl, rfl⟩, (fun _ e => by cases e)⟩, Nat.zero_le _⟩
  · simp only [if_true] at hzl
    injection hx with hd _
    have hlen : ((zs.take len).map fun z => UInt8.ofNat z.toNat).length = len := by
      rw [List.length_map, List.length_take, Nat.min_eq_left (by omega)]
    refine ⟨_, (zs.take len).map fun z => UInt8.ofNat z.toNat, e1, ⟨some ad, cap, by rw [hlen], by rw [hlen]; omega, hcm, (fun e => by cases e), fun ad' e => ?_⟩, ?_⟩
    · obtain rfl := Option.some.inj e
      refine ⟨fun h0 => ?_, fun j u hj => ?_⟩
      · have h1 : 0 < len := by
          rcases Nat.eq_zero_or_pos len with h | h
          · exfalso; apply h0; subst h; simp
          · exact h
        exact plain_of (hcell 0 (by omega))
      · have hj1 : j < len := by
          have := (List.getElem?_eq_some_iff.1 hj).1
          rw [cb_length, hlen] at this
          exact this
        have hj2 : j < zs.length := by omega
        have hz := hwf zs[j] (List.getElem_mem hj2)
        have hb : 0 ≤ zs[j] ∧ zs[j] ≤ 255 := by
          simpa [Lit.wf, IntKind.min, IntKind.max, IntKind.signed, IntKind.bits] using hz
        have h1 := hcell j hj2
        rw [cb_get (by rw [hlen]; exact hj1)] at hj
        rw [h1, ← hj]
        simp only [List.getElem_map, List.getElem_take, List.getD_eq_getElem?_getD, List.getElem?_eq_getElem hj2, Option.getD_some]
        congr 2
        rw [UInt8.toNat_ofNat', Nat.mod_eq_of_lt (by omega)]
        omega
    · rw [hlen]
      have h1 := hN ((lits (H := H) .u8 (zs.take len)).length + (lits (H := H) .u8 (zs.drop len)).length) (by
        rw [hd]
        simp only [DataW.weights, Tryd.underlying29, bytes8, Nat.mul_one]
        exact List.mem_cons_self)
      have e : (lits (H := H) .u8 (zs.take len)).length = (zs.take len).length := by simp [lits]
      rw [e, List.length_take, Nat.min_eq_left (by omega)] at h1
      omega
set_option maxRecDepth 100000 in
theorem cellsI : Tryd.prog.cellsOf 3 = 1 := by kernel_rfl
set_option maxRecDepth 100000 in
theorem bytesI : Tryd.prog.bytesOf 3 = 8 := by kernel_rfl
set_option maxRecDepth 100000 in
theorem cellsSl1 : Tryd.prog.cellsOf 29 = 1 := by kernel_rfl
set_option maxRecDepth 100000 in
/-- a list of ints as an argument -/
theorem si_open {H : Type} {enc : TypeId × Value → H} {W : World} {v : Value} {d : DataW H} {ps : List MemPlace} {base : Nat}
    (hval : Value.okWide Tryd.prog W .any base 42 v) (h : DataW.Trod enc Tryd.prog W 0 (fun _ => true) true 42 v d ps) (hN : ∀ n ∈ d.weights Tryd.prog 42, n ≤ 140737488355000) : ∃ cs, SI W v cs ∧ cs.length ≤ 17592186044416 := by
  obtain ⟨a, len, cap, rfl⟩ := okWide_slice Tryd.underlying42 hval
  obtain ⟨fuel, hf⟩ := h
  have hf' : DataW.trod enc Tryd.prog W 0 (fun _ => true) true fuel 42 [.slice a len cap] = some (d, ps) := hf
  rcases open_ints Tryd.underlying42 Tryd.underlying3 cellsI hf' with ⟨e1, _⟩ | ⟨ad, l2, c2, zs, e1, _, hlc, hcm, hzl, hx, hcell, hwf⟩
  · simp only [List.cons.injEq, Value.slice.injEq, and_true] at e1
    obtain ⟨rfl, rfl, rfl⟩ := e1
    exact ⟨[], ⟨none, 0, rfl, Nat.le_refl _, by simp [maxLen], fun _ => ⟨rfl, rfl⟩, (fun _ e => by cases e)⟩, Nat.zero_le _⟩
  · simp only [List.cons.injEq, Value.slice.injEq, and_true] at e1
    obtain ⟨rfl, rfl, rfl⟩ := e1
    simp only [if_true] at hzl
    injection hx with hd _
    have hlen : (zs.take len).length = len := by rw [List.length_take, Nat.min_eq_left (by omega)]
    refine ⟨zs.take len, ⟨some ad, cap, by rw [hlen], by rw [hlen]; omega, hcm, (fun e => by cases e), fun ad' e => ?_⟩, ?_⟩
    · obtain rfl := Option.some.inj e
      refine ⟨fun h0 => ?_, fun j u hj => ?_⟩
      · have h1 : 0 < len := by
          rcases Nat.eq_zero_or_pos len with h | h
          · exfalso; apply h0; subst h; simp
          · exact h
        exact plain_of (hcell 0 (by omega))
      · have hj1 : j < len := by
          have := (List.getElem?_eq_some_iff.1 hj).1
          rw [ci_length, hlen] at this
          exact this
        have hj2 : j < zs.length := by omega
        have h1 := hcell j hj2
        have h2 : (ci (zs.take len))[j]? = some (.int .i64 zs[j]) := by
          unfold ci
          rw [List.getElem?_map, List.getElem?_take_of_lt hj1, List.getElem?_eq_getElem hj2]
          rfl
        rw [h2] at hj
        rw [h1, ← hj]
        simp only [List.getD_eq_getElem?_getD, List.getElem?_eq_getElem hj2, Option.getD_some]
    · rw [hlen]
      have h1 := hN (((lits (H := H) .i64 (zs.take len)).length + (lits (H := H) .i64 (zs.drop len)).length) * 8) (by
        rw [hd]
        simp only [DataW.weights, Tryd.underlying42, bytesI]
        exact List.mem_cons_self)
      have e : (lits (H := H) .i64 (zs.take len)).length = (zs.take len).length := by simp [lits]
      rw [e, hlen] at h1
      omega
set_option maxRecDepth 100000 in
/-- lists of bytes as an argument -/
theorem sts_open {H : Type} {enc : TypeId × Value → H} {W : World} {v : Value} {d : DataW H} {ps : List MemPlace} {base : Nat}
    (hval : Value.okWide Tryd.prog W .any base 54 v) (h : DataW.Trod enc Tryd.prog W 0 (fun _ => true) true 54 v d ps) (hN : ∀ n ∈ d.weights Tryd.prog 54, n ≤ 140737488355000) : ∃ a ls c, v = .slice a (List.length ls) c ∧ STs W a ls c ∧ List.length ls ≤ 4611686018427387904 := by
  obtain ⟨a, len, cap, rfl⟩ := okWide_slice Tryd.underlying54 hval
  obtain ⟨fuel, hf⟩ := h
  have hf' : DataW.trod enc Tryd.prog W 0 (fun _ => true) true fuel 54 [.slice a len cap] = some (d, ps) := hf
  rcases DataW.trod_slice Tryd.underlying54 hf' with ⟨e1, _⟩ | ⟨ad, l2, c2, elems, rest, n, _, e1, hx, _, hlc, hcm, hel0, hel, _, _⟩
  · simp only [List.cons.injEq, Value.slice.injEq, and_true] at e1
    obtain ⟨rfl, rfl, rfl⟩ := e1
    exact ⟨none, [], 0, rfl, ⟨Nat.le_refl _, (fun i hi => by cases hi), (fun p hp => by cases hp)⟩, Nat.zero_le _⟩
  · simp only [List.cons.injEq, Value.slice.injEq, and_true] at e1
    obtain ⟨rfl, rfl, rfl⟩ := e1
    injection hx with hd _
    rw [cellsSl1] at hel
    have key : ∀ i, i < len → ∃ (u : Value) (l : List UInt8), W.cell? (ad.add i) = some u ∧ Sb W u l ∧ l.length ≤ 140737488355328 := by
      intro i hi
      have h1 := hel i hi
      rw [List.getElem?_eq_getElem (by omega), Option.bind_eq_some_iff] at h1
      obtain ⟨cs, hcs, hy⟩ := h1
      obtain ⟨u, l, rfl, h2, h3⟩ := sb_open (N := 140737488355000) hy (fun n hn1 => hN n (by
        rw [hd]
        simp only [DataW.weights, Tryd.underlying54]
        refine List.mem_cons_of_mem _ (List.mem_append_left _ (mem_all (j := i) (d := (elems[i]'(by omega)).1) (by rw [List.getElem?_map, List.getElem?_eq_getElem (by omega)]; rfl) n hn1))))
      have h4 := (World.cells?_some hcs).2.2 0 (by decide)
      rw [Nat.mul_one] at h4
      have e : (ad.add i).add 0 = ad.add i := by
        obtain ⟨b, off, sp⟩ := ad
        unfold Addr.add
        split <;> simp_all
      rw [e] at h4
      exact ⟨u, l, h4.trans rfl, h2, by omega⟩
    have mk : ∀ k, k ≤ len → ∃ ls : List (List UInt8), ls.length = k ∧ ∀ i (hi : i < ls.length), ∃ u, W.cell? (ad.add i) = some u ∧ Sb W u ls[i] ∧ (ls[i]).length ≤ 140737488355328 := by
      intro k
      induction k with
      | zero => exact fun _ => ⟨[], rfl, fun i hi => by cases hi⟩
      | succ k ih =>
        intro hk
        obtain ⟨ts, hl, ht⟩ := ih (by omega)
        obtain ⟨u, l, hk2⟩ := key k (by omega)
        refine ⟨ts ++ [l], by rw [List.length_append, hl]; rfl, fun i hi => ?_⟩
        by_cases hik : i < ts.length
        · rw [List.getElem_append_left hik]
          exact ht i hik
        · have e : i = k := by rw [List.length_append] at hi; simp at hi; omega
          subst e
          rw [List.getElem_append_right (by omega)]
          simp only [hl, Nat.sub_self, List.getElem_cons_zero]
          exact ⟨u, hk2⟩
    obtain ⟨ls, hl, ht⟩ := mk len (Nat.le_refl _)
    refine ⟨some ad, ls, cap, by rw [hl], ⟨by rw [hl]; exact hlc, fun i hi => ?_, fun p hp => ?_⟩, ?_⟩
    · obtain ⟨u, h1, h2, _⟩ := ht i hi
      obtain ⟨u0, h3, _⟩ := ht 0 (by omega)
      have hsp := plain_of h3
      obtain ⟨b, off, sp⟩ := ad
      obtain rfl : sp = none := hsp
      rw [Addr.add_lit] at h1
      exact ⟨b, off, u, rfl, h1, h2⟩
    · obtain ⟨i, hi, rfl⟩ := List.getElem_of_mem hp
      obtain ⟨_, _, _, h3⟩ := ht i hi
      exact h3
    · rw [hl]
      have h1 := hN ((elems.length + rest.length) * 24) (by
        rw [hd]
        simp only [DataW.weights, Tryd.underlying54, show Tryd.prog.bytesOf 29 = 24 by kernel_rfl, List.length_map]
        exact List.mem_cons_self)
      omega
end Go.Proofs.YtepakbghhnkcfaaDoor
