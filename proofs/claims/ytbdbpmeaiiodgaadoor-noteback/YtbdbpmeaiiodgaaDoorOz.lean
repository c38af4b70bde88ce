import Derived.Test.YtbdbpmeaiiodgaaDoorFd
import Derived.SizedLaws
import Derived.ProofKit
import Derived.OpenShut
import Derived.ChangeSame
import Derived.WideKeyArgs
import Derived.DataReads
namespace Go.Proofs.YtbdbpmeaiiodgaaDoor
open Go.ChangeShapes Go.WideShapes Go.ChangeAt Go.WideMaps Go.WideElems Go.RowKit TextNum
theorem list_choose {α : Type} {P : Nat → α → Prop} : ∀ (n : Nat), (∀ i, i < n → ∃ x, P i x) → ∃ xs : List α, xs.length = n ∧ ∀ i (h : i < xs.length), P i xs[i]
  | 0, _ => ⟨[], rfl, fun i h => by cases h⟩
  | n + 1, h => by
    obtain ⟨xs, e, hx⟩ := list_choose n (fun i hi => h i (by omega))
    obtain ⟨x, hp⟩ := h n (by omega)
    refine ⟨xs ++ [x], by simp [e], fun i hi => ?_⟩
    rcases Nat.lt_or_ge i xs.length with hl | hl
    · rw [List.getElem_append_left hl]; exact hx i hl
    · have hi' : i = n := by rw [List.length_append] at hi; simp at hi; omega
      subst hi'
      rw [List.getElem_append_right hl]
      simpa using hp
theorem weights_mem_all {H : Type} {P : Program} {e : TypeId} : ∀ {ds : List (DataW H)} {j : Nat} {d : DataW H}, ds[j]? = some d → ∀ n ∈ d.weights P e, n ∈ DataW.weightsAll P e ds
  | d0 :: ds, 0, d, hd, n, hn => by
    simp only [List.getElem?_cons_zero, Option.some.injEq] at hd
    subst hd
    simp only [DataW.weightsAll, List.mem_append]
    exact Or.inl hn
  | d0 :: ds, j + 1, d, hd, n, hn => by
    simp only [List.getElem?_cons_succ] at hd
    simp only [DataW.weightsAll, List.mem_append]
    exact Or.inr (weights_mem_all hd n hn)
  | [], _, _, hd, _, _ => by simp at hd
set_option maxRecDepth 100000 in
theorem bytes8 : Tryd.prog.bytesOf 5 = 1 := by kernel_rfl
theorem sl_openW {H : Type} {enc : TypeId × Value → H} {W : World} {fuel : Nat} {l : List Value} {d : DataW H} {ps : List MemPlace}
    (hf' : DataW.trod enc Tryd.prog W 0 (fun _ => true) true fuel 22 l = some (d, ps)) :
    ∃ a c bs, l = [.slice a bs.length c] ∧ Sl W (.slice a bs.length c) bs ∧ ∀ R, (∀ n, n ∈ d.weights Tryd.prog 22 → n ≤ R) → bs.length ≤ R := by
  rcases open_ints Tryd.underlying22 Tryd.underlying5 cells8' hf' with ⟨e1, _⟩ | ⟨ad, len, cap, zs, e1, _, hlc, _, hzl, hx, hcell, hwf⟩
  · exact ⟨none, 0, [], e1, ⟨none, 0, rfl, Nat.le_refl _, .inl rfl⟩, fun _ _ => Nat.zero_le _⟩
  · simp only [if_true] at hzl
    injection hx with hd _
    have hlen : ((zs.take len).map fun z => UInt8.ofNat z.toNat).length = len := by
      rw [List.length_map, List.length_take, Nat.min_eq_left (by omega)]
    refine ⟨some ad, cap, (zs.take len).map fun z => UInt8.ofNat z.toNat, by rw [hlen]; exact e1, ⟨some ad, cap, rfl, by rw [hlen]; omega, ?_⟩, fun R hR => ?_⟩
    · rcases Nat.eq_zero_or_pos len with h0 | h0
      · left; subst h0; simp
      · right
        have h00 := hcell 0 (by omega)
        obtain ⟨b, off, rfl⟩ : ∃ b off, ad = ⟨b, off, none⟩ := by
          obtain ⟨b, off, sp⟩ := ad
          cases sp with
          | none => exact ⟨b, off, rfl⟩
          | some s => exfalso; simp only [World.cell?, Addr.add] at h00; split at h00 <;> simp at h00
        refine ⟨b, off, rfl, lt_of_cell (i := off + 0) (by rw [add_plain] at h00; exact h00), fun i hi => ?_⟩
        rw [hlen] at hi
        have h1 := hcell i (by omega)
        rw [add_plain] at h1
        rw [h1]
        have hi2 : i < zs.length := by omega
        have hz := hwf zs[i] (List.getElem_mem hi2)
        have hb : 0 ≤ zs[i] ∧ zs[i] ≤ 255 := by
          simpa [Lit.wf, IntKind.min, IntKind.max, IntKind.signed, IntKind.bits] using hz
        simp only [List.getElem_map, List.getElem_take, List.getD_eq_getElem?_getD, List.getElem?_eq_getElem hi2, Option.getD_some]
        congr 2
        rw [ofNat_toNat (by omega)]
        omega
    · rw [hlen]
      rw [hd] at hR
      have := hR _ (show _ ∈ DataW.weights Tryd.prog 22 (DataW.slice _ _) from by
        unfold DataW.weights
        rw [Tryd.underlying22]
        exact List.mem_cons_self)
      have e : (lits (H := H) .u8 (zs.take len)).length = (zs.take len).length := by simp [lits]
      rw [bytes8, e, List.length_take, Nat.min_eq_left (by omega)] at this
      omega
set_option maxRecDepth 100000 in
theorem sig_openW {H : Type} {enc : TypeId × Value → H} {W : World} {fuel : Nat} {cs : List Value} {d : DataW H} {ps : List MemPlace}
    (hf : DataW.trod enc Tryd.prog W 0 (fun _ => true) true fuel 42 cs = some (d, ps)) :
    ∃ (q : Sg × Option Addr × Nat), cs = [.string q.1.name, .int .u32 (q.1.hash : Int), .slice q.2.1 q.1.bytes.length q.2.2] ∧ q.1.hash < 4294967296 ∧ Sl W (.slice q.2.1 q.1.bytes.length q.2.2) q.1.bytes ∧
      ∀ R, (∀ n, n ∈ d.weights Tryd.prog 42 → n ≤ R) → q.1.name.size ≤ R ∧ q.1.bytes.length ≤ R := by
  obtain ⟨ys, m, _, hx, hl, hn, hel⟩ := DataW.trod_struct Tryd.underlying42 hf
  rw [show Tryd.prog.cellsOf 42 = 3 by kernel_rfl] at hl
  have hn3 : ys.length = 3 := hn
  injection hx with hd _
  have e0 : DataW.trod enc Tryd.prog W 0 (fun _ => true) true m 9 ((cs.drop 0).take (Tryd.prog.cellsOf 9)) = ys[0]? := hel 0 _ rfl
  have e1 : DataW.trod enc Tryd.prog W 0 (fun _ => true) true m 40 ((cs.drop 1).take (Tryd.prog.cellsOf 40)) = ys[1]? := hel 1 _ rfl
  have e2 : DataW.trod enc Tryd.prog W 0 (fun _ => true) true m 22 ((cs.drop 2).take (Tryd.prog.cellsOf 22)) = ys[2]? := hel 2 _ rfl
  rw [show Tryd.prog.cellsOf 9 = 1 by kernel_rfl, List.getElem?_eq_getElem (by omega)] at e0
  rw [show Tryd.prog.cellsOf 40 = 1 by kernel_rfl, List.getElem?_eq_getElem (by omega)] at e1
  rw [show Tryd.prog.cellsOf 22 = 1 by kernel_rfl, List.getElem?_eq_getElem (by omega)] at e2
  obtain ⟨nm, f0, g0, _⟩ := DataW.trod_string Tryd.underlying9 e0
  obtain ⟨z, f1, _, w1⟩ := DataW.trod_int Tryd.underlying40 e1
  obtain ⟨a, c, bs, f2, hS, hB⟩ := sl_openW e2
  have hz : 0 ≤ z ∧ z ≤ 4294967295 := by
    simpa [Lit.wf, IntKind.min, IntKind.max, IntKind.signed, IntKind.bits] using w1
  refine ⟨(⟨nm, z.toNat, bs⟩, a, c), ?_, by simp only; omega, hS, fun R hR => ?_⟩
  · match cs, hl with
    | [x, y, u], _ =>
      simp only [List.drop_zero, List.take_succ_cons, List.take_zero, List.cons.injEq, and_true, List.drop_succ_cons] at f0 f1 f2
      rw [f0, f1, f2]
      simp only [List.cons.injEq, and_true, true_and]
      congr 1
      omega
  · rw [hd] at hR
    have hw : ∀ j t (d' : DataW H), ([9, 40, 22] : List TypeId)[j]? = some t → (ys.map (·.1))[j]? = some d' → ∀ n, n ∈ d'.weights Tryd.prog t → n ≤ R := fun j t d' ht hd' n hn => hR n (by
      unfold DataW.weights
      rw [Tryd.underlying42]
      exact DataW.weights_mem_each (ts := [9, 40, 22]) ht hd' n hn)
    constructor
    · have h0 := hw 0 9 (.lit (.string nm.data.toList)) rfl (by rw [List.getElem?_map, List.getElem?_eq_getElem (by omega), g0]; rfl) nm.data.toList.length (by simp [DataW.weights])
      rw [← Go.Lib.size_eq] at h0
      exact h0
    · exact hB R (hw 2 22 _ rfl (by rw [List.getElem?_map, List.getElem?_eq_getElem (by omega)]; rfl))
set_option maxRecDepth 100000 in
theorem cellsSg : Tryd.prog.cellsOf 42 = 3 := by kernel_rfl
/-- a list of signatures as an argument -/
theorem sigs_openW {H : Type} {enc : TypeId × Value → H} {W : World} {v : Value} {d : DataW H} {ps : List MemPlace} (h : DataW.Trod enc Tryd.prog W 0 (fun _ => true) true 39 v d ps) (a : Option Addr) (len cap : Nat) (hv : v = .slice a len cap) :
    ∃ ss, SigL W v ss ∧ Hsh ss ∧ ∀ R, (∀ n, n ∈ d.weights Tryd.prog 39 → n ≤ R) → ∀ s, s ∈ ss → s.name.size ≤ R ∧ s.bytes.length ≤ R := by
  subst hv
  obtain ⟨fuel, hf⟩ := h
  have hf' : DataW.trod enc Tryd.prog W 0 (fun _ => true) true fuel 39 [.slice a len cap] = some (d, ps) := hf
  rcases DataW.trod_slice Tryd.underlying39 hf' with ⟨e1, _⟩ | ⟨ad, l2, c2, elems, rest, n, _, e1, hx, _, hlc, _, hel0, hel, _, _⟩
  · simp only [List.cons.injEq, Value.slice.injEq, and_true] at e1
    obtain ⟨rfl, rfl, rfl⟩ := e1
    exact ⟨[], ⟨none, 0, rfl, Nat.le_refl _, .inl rfl⟩, fun s hs => (by cases hs), fun R _ s hs => (by cases hs)⟩
  · simp only [List.cons.injEq, Value.slice.injEq, and_true] at e1
    obtain ⟨rfl, rfl, rfl⟩ := e1
    injection hx with hd _
    rw [cellsSg] at hel
    have key : ∀ i, i < len → ∃ q : Sg × Option Addr × Nat, W.cells? 0 (ad.add (i * 3)) 3 = some [.string q.1.name, .int .u32 (q.1.hash : Int), .slice q.2.1 q.1.bytes.length q.2.2] ∧ q.1.hash < 4294967296 ∧ Sl W (.slice q.2.1 q.1.bytes.length q.2.2) q.1.bytes ∧
        ∀ R, (∀ n, n ∈ d.weights Tryd.prog 39 → n ≤ R) → q.1.name.size ≤ R ∧ q.1.bytes.length ≤ R := by
      intro i hi
      have h1 := hel i hi
      rw [List.getElem?_eq_getElem (by omega), Option.bind_eq_some_iff] at h1
      obtain ⟨cs, hcs, hy⟩ := h1
      obtain ⟨q, rfl, h2, h3, h4⟩ := sig_openW hy
      refine ⟨q, hcs, h2, h3, fun R hR => h4 R (fun n hn => hR n ?_)⟩
      rw [hd]
      unfold DataW.weights
      rw [Tryd.underlying39]
      refine List.mem_cons_of_mem _ (List.mem_append.2 (.inl (weights_mem_all (j := i) ?_ n hn)))
      rw [List.getElem?_map, List.getElem?_eq_getElem (by omega)]
      rfl
    obtain ⟨qs, hql, hq⟩ := list_choose len key
    have hget : ∀ s, s ∈ qs.map (·.1) → ∃ i, ∃ h : i < qs.length, s = qs[i].1 := fun s hs => by
      obtain ⟨q, hq, rfl⟩ := List.mem_map.1 hs
      obtain ⟨i, hi, rfl⟩ := List.getElem_of_mem hq
      exact ⟨i, hi, rfl⟩
    refine ⟨qs.map (·.1), ⟨some ad, cap, by rw [List.length_map, hql], by rw [List.length_map, hql]; exact hlc, ?_⟩, fun s hs => ?_, fun R hR s hs => ?_⟩
    · rcases Nat.eq_zero_or_pos len with h0 | h0
      · left
        rw [List.length_eq_zero_iff.1 (hql.trans h0)]
        rfl
      · right
        have h00 := (World.cells?_some (hq 0 (by omega)).1).2.2 0 (by decide)
        obtain ⟨b, off, rfl⟩ : ∃ b off, ad = ⟨b, off, none⟩ := by
          have h01 : W.cell? ((ad.add (0 * 3)).add 0) = some (.string (qs[0]'(by omega)).1.name) := h00.trans rfl
          obtain ⟨b, off, sp⟩ := ad
          cases sp with
          | none => exact ⟨b, off, rfl⟩
          | some s => exfalso; simp only [World.cell?, Addr.add] at h01; split at h01 <;> simp at h01
        have hc : ∀ i (h : i < qs.length) j, j < 3 → W.cell? ⟨b, off + i * 3 + j, none⟩ = ([.string qs[i].1.name, .int .u32 (qs[i].1.hash : Int), .slice qs[i].2.1 qs[i].1.bytes.length qs[i].2.2] : List Value)[j]? := fun i h j hj => by
          have := (World.cells?_some (hq i h).1).2.2 j hj
          rwa [add_plain, add_plain] at this
        refine ⟨b, off, rfl, lt_of_cell (hc 0 (by omega) 0 (by decide)), fun i hi => ?_⟩
        have hi' : i < qs.length := by rwa [List.length_map] at hi
        rw [List.getElem_map]
        refine ⟨qs[i].2.1, qs[i].1.bytes.length, qs[i].2.2, ?_, ?_, ?_, rfl, (hq i hi').2.2.1⟩
        · exact hc i hi' 0 (by decide)
        · exact hc i hi' 1 (by decide)
        · exact hc i hi' 2 (by decide)
    · obtain ⟨i, hi, rfl⟩ := hget s hs
      exact (hq i hi).2.1
    · obtain ⟨i, hi, rfl⟩ := hget s hs
      exact (hq i hi).2.2.2 R hR
end Go.Proofs.YtbdbpmeaiiodgaaDoor
