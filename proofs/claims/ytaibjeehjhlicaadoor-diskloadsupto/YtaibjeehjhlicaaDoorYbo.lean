import Derived.Test.YtaibjeehjhlicaaDoorYbn
import Derived.Test.YtaibjeehjhlicaaDoorRows
import Derived.SizedLaws
import Derived.ProofKit
import Derived.OpenShut
import Derived.ChangeSame
import Derived.WideKeyArgs
import Derived.DataReads
namespace Go.Proofs.YtaibjeehjhlicaaDoor
open Go.ChangeShapes Go.WideShapes Go.ChangeAt Go.WideMaps Go.WideElems Go.RowKit TextNum
set_option maxRecDepth 100000 in
theorem cells8 : Tryd.prog.cellsOf 5 = 1 := by kernel_rfl
set_option maxRecDepth 100000 in
theorem cellsLF : Tryd.prog.cellsOf 36 = 2 := by kernel_rfl
theorem plain_of {W : World} {ad : Addr} {v : Value} (h : W.cell? (ad.add 0) = some v) : ad.spot = none := by
  have e : ad.add 0 = ad := by unfold Addr.add; rw [if_pos rfl]
  rw [e] at h
  obtain ⟨b, off, sp⟩ := ad
  cases sp with
  | none => rfl
  | some s => exfalso; simp only [World.cell?] at h; split at h <;> simp at h
theorem plain_ofO {W : World} {ad : Addr} {v : Value} (h : W.cell? (ad.add 0) = some v) : ad.spot = none := by
  have e : ad.add 0 = ad := by unfold Addr.add; rw [if_pos rfl]
  rw [e] at h
  obtain ⟨b, off, sp⟩ := ad
  cases sp with
  | none => rfl
  | some s => exfalso; simp only [World.cell?] at h; split at h <;> simp at h
theorem one_leB {H : Type} (d : DataW H) : 1 ≤ Rows.uptoBulk d := by
  cases d with
  | lit l => cases l <;> simp [Rows.uptoBulk]
  | nil => simp [Rows.uptoBulk]
  | ptr d => simp [Rows.uptoBulk]
  | slice elems spare => simp [Rows.uptoBulk]
  | agg parts => simp [Rows.uptoBulk]
  | iface t d => simp [Rows.uptoBulk]
  | map entries => simp [Rows.uptoBulk]
  | held h => simp [Rows.uptoBulk]
theorem len_leB {H : Type} : ∀ (l : List (DataW H)), l.length ≤ Rows.uptoBulkAll l
  | [] => Nat.zero_le _
  | x :: r => by have := one_leB x; have := len_leB r; simp only [Rows.uptoBulkAll, List.length_cons]; omega
theorem bulk_mem {H : Type} : ∀ {ds : List (DataW H)} {j : Nat} {d : DataW H}, ds[j]? = some d → Rows.uptoBulk d ≤ Rows.uptoBulkAll ds
  | d0 :: ds, 0, d, hd => by
    simp only [List.getElem?_cons_zero, Option.some.injEq] at hd
    subst hd
    simp only [Rows.uptoBulkAll]
    omega
  | d0 :: ds, j + 1, d, hd => by
    simp only [List.getElem?_cons_succ] at hd
    have := bulk_mem hd
    simp only [Rows.uptoBulkAll]
    omega
  | [], _, _, hd => by simp at hd
theorem sb_openB {H : Type} {enc : TypeId × Value → H} {W : World} {fuel : Nat} {l : List Value} {d : DataW H} {ps : List MemPlace}
    (hf' : DataW.trod enc Tryd.prog W 0 (fun _ => true) true fuel 27 l = some (d, ps)) :
    ∃ v bs, l = [v] ∧ Sb W v bs ∧ bs.length ≤ Rows.uptoBulk d := by
  rcases open_ints Tryd.underlying27 Tryd.underlying5 cells8 hf' with ⟨e1, _⟩ | ⟨ad, len, cap, zs, e1, _, hlc, hcm, hzl, hx, hcell, hwf⟩
  · exact ⟨_, [], e1, ⟨none, 0, rfl, Nat.le_refl _, by simp [maxLen], fun _ => ⟨rfl, rfl⟩, (fun _ e => by cases e)⟩, Nat.zero_le _⟩
  · simp only [if_true] at hzl
    injection hx with hd _
    have hlen : ((zs.take len).map fun z => UInt8.ofNat z.toNat).length = len := by
      rw [List.length_map, List.length_take, Nat.min_eq_left (by omega)]
    refine ⟨_, (zs.take len).map fun z => UInt8.ofNat z.toNat, e1, ⟨some ad, cap, by rw [hlen], by rw [hlen]; omega, hcm, (fun e => by cases e), fun ad' e => ?_⟩, ?_⟩
    · obtain rfl := Option.some.inj e
      refine ⟨fun h0 => ?_, fun j u hj => ?_⟩
      · have h1 : 0 < len := by
          rcases Nat.eq_zero_or_pos len with h | h
          · exfalso; apply h0; subst h; simp
          · exact h
        exact plain_of (hcell 0 (by omega))
      · have hj1 : j < len := by
          have := (List.getElem?_eq_some_iff.1 hj).1
          rw [cb_length, hlen] at this
          exact this
        have hj2 : j < zs.length := by omega
        have hz := hwf zs[j] (List.getElem_mem hj2)
        have hb : 0 ≤ zs[j] ∧ zs[j] ≤ 255 := by
          simpa [Lit.wf, IntKind.min, IntKind.max, IntKind.signed, IntKind.bits] using hz
        have h1 := hcell j hj2
        rw [cb_get (by rw [hlen]; exact hj1)] at hj
        rw [h1, ← hj]
        simp only [List.getElem_map, List.getElem_take, List.getD_eq_getElem?_getD, List.getElem?_eq_getElem hj2, Option.getD_some]
        congr 2
        rw [UInt8.toNat_ofNat', Nat.mod_eq_of_lt (by omega)]
        omega
    · rw [hlen, hd]
      simp only [Rows.uptoBulk]
      have := len_leB (lits (H := H) .u8 (zs.take len))
      have e : (lits (H := H) .u8 (zs.take len)).length = (zs.take len).length := by simp [lits]
      rw [List.length_take, Nat.min_eq_left (by omega)] at e
      omega
theorem bulk_sum {H : Type} : ∀ (l : List (DataW H)) (f : List Nat), f.length = l.length → (∀ i (_ : i < l.length) (_ : i < f.length), f[i] + 2 ≤ Rows.uptoBulk l[i]) → f.sum + 2 * l.length ≤ Rows.uptoBulkAll l
  | [], [], _, _ => by simp
  | d :: l, x :: f, hl, h => by
    have h0 := h 0 (by simp) (by simp)
    have ih := bulk_sum l f (by simpa using hl) (fun i h1 h2 => by
      have := h (i + 1) (by simp; omega) (by simp; omega)
      simpa using this)
    simp only [List.getElem_cons_zero] at h0
    simp only [Rows.uptoBulkAll, List.sum_cons, List.length_cons]
    omega
set_option maxRecDepth 100000 in
theorem file_openW {H : Type} {enc : TypeId × Value → H} {W : World} {fuel : Nat} {cs : List Value} {d : DataW H} {ps : List MemPlace}
    (hf : DataW.trod enc Tryd.prog W 0 (fun _ => true) true fuel 36 cs = some (d, ps)) : ∃ g : GF, cs = [.string g.nm, g.v] ∧ Sb W g.v g.ds ∧ g.ds.length + 2 ≤ Rows.uptoBulk d := by
  obtain ⟨ys, m, _, hx, hl, hn, hel⟩ := DataW.trod_struct Tryd.underlying36 hf
  rw [cellsLF] at hl
  have hn3 : ys.length = 2 := hn
  obtain ⟨x0, x1, rfl⟩ : ∃ x0 x1, cs = [x0, x1] := by
    match cs, hl with
    | [x0, x1], _ => exact ⟨x0, x1, rfl⟩
  injection hx with hd _
  have cS : Tryd.prog.cellsOf 9 = 1 := by kernel_rfl
  have cB : Tryd.prog.cellsOf 27 = 1 := by kernel_rfl
  have e0 : DataW.trod enc Tryd.prog W 0 (fun _ => true) true m 9 (([x0, x1].drop 0).take (Tryd.prog.cellsOf 9)) = ys[0]? := hel 0 _ rfl
  have e1 : DataW.trod enc Tryd.prog W 0 (fun _ => true) true m 27 (([x0, x1].drop 1).take (Tryd.prog.cellsOf 27)) = ys[1]? := hel 1 _ rfl
  rw [cS, List.getElem?_eq_getElem (by omega)] at e0
  rw [cB, List.getElem?_eq_getElem (by omega)] at e1
  obtain ⟨k0, f0, _, _⟩ := DataW.trod_string Tryd.underlying9 e0
  obtain ⟨⟨d0, p0⟩, hy0⟩ : ∃ y, ys[0]'(by omega) = y := ⟨_, rfl⟩
  obtain ⟨⟨d1, p1⟩, hy1⟩ : ∃ y, ys[1]'(by omega) = y := ⟨_, rfl⟩
  rw [hy1] at e1
  obtain ⟨k1, b1, f1, s1, l1⟩ := sb_openB e1
  simp only [List.drop_zero, List.take_succ_cons, List.take_zero, List.cons.injEq, and_true, List.drop_succ_cons] at f0 f1
  refine ⟨⟨k0, k1, b1⟩, by rw [f0, f1], s1, ?_⟩
  have hys : ys = [(d0, p0), (d1, p1)] := by
    apply List.ext_getElem (by rw [hn3]; rfl)
    intro i h1 h2
    rcases i with _ | _ | i
    · exact hy0
    · exact hy1
    · exfalso; omega
  rw [hd, hys]
  simp only [List.map_cons, List.map_nil, Rows.uptoBulk, Rows.uptoBulkAll]
  have := one_leB d0
  show b1.length + 2 ≤ _
  omega
set_option maxRecDepth 100000 in
/-- a list of files as an argument, with the bulk -/
theorem files_open {H : Type} {enc : TypeId × Value → H} {W : World} {v : Value} {d : DataW H} {ps : List MemPlace} {base : Nat}
    (hval : Value.okWide Tryd.prog W .any base 22 v) (h : DataW.Trod enc Tryd.prog W 0 (fun _ => true) true 22 v d ps) : ∃ a ls c, v = .slice a (List.length ls) c ∧ FsL W a ls c ∧ szs ls + 2 * List.length ls ≤ Rows.uptoBulk d := by
  obtain ⟨a, len, cap, rfl⟩ := okWide_slice Tryd.underlying22 hval
  obtain ⟨fuel, hf⟩ := h
  have hf' : DataW.trod enc Tryd.prog W 0 (fun _ => true) true fuel 22 [.slice a len cap] = some (d, ps) := hf
  rcases DataW.trod_slice Tryd.underlying22 hf' with ⟨e1, _⟩ | ⟨ad, l2, c2, elems, rest, n, _, e1, hx, _, hlc, _, hel0, hel, _, _⟩
  · simp only [List.cons.injEq, Value.slice.injEq, and_true] at e1
    obtain ⟨rfl, rfl, rfl⟩ := e1
    exact ⟨none, [], 0, rfl, ⟨Nat.le_refl _, (fun i hi => by cases hi), (fun p hp => by cases hp)⟩, Nat.zero_le _⟩
  · simp only [List.cons.injEq, Value.slice.injEq, and_true] at e1
    obtain ⟨rfl, rfl, rfl⟩ := e1
    rw [cellsLF] at hel
    injection hx with hd _
    have key : ∀ i, (hi : i < len) → ∃ g : GF, W.cells? 0 (ad.add (i * 2)) 2 = some [.string g.nm, g.v] ∧ Sb W g.v g.ds ∧ g.ds.length + 2 ≤ Rows.uptoBulk (elems[i]'(by omega)).1 := by
      intro i hi
      have h1 := hel i hi
      rw [List.getElem?_eq_getElem (by omega), Option.bind_eq_some_iff] at h1
      obtain ⟨cs, hcs, hy⟩ := h1
      obtain ⟨g, rfl, h2, h3⟩ := file_openW hy
      exact ⟨g, hcs, h2, h3⟩
    have mk : ∀ k, (hk : k ≤ len) → ∃ ls : List GF, ls.length = k ∧ ∀ i (hi : i < ls.length) (hi2 : i < len), W.cells? 0 (ad.add (i * 2)) 2 = some [.string ls[i].nm, ls[i].v] ∧ Sb W ls[i].v ls[i].ds ∧ ls[i].ds.length + 2 ≤ Rows.uptoBulk (elems[i]'(by omega)).1 := by
      intro k
      induction k with
      | zero => exact fun _ => ⟨[], rfl, fun i hi => by cases hi⟩
      | succ k ih =>
        intro hk
        obtain ⟨ls, hl, ht⟩ := ih (by omega)
        obtain ⟨g, hk2⟩ := key k (by omega)
        refine ⟨ls ++ [g], by rw [List.length_append, hl]; rfl, fun i hi hi2 => ?_⟩
        by_cases hik : i < ls.length
        · rw [List.getElem_append_left hik]
          exact ht i hik hi2
        · have e : i = k := by rw [List.length_append] at hi; simp at hi; omega
          subst e
          have e2 : (ls ++ [g])[i] = g := by
            rw [List.getElem_append_right (by omega)]
            simp
          rw [e2]
          exact hk2
    obtain ⟨ls, hl, ht⟩ := mk len (Nat.le_refl _)
    refine ⟨some ad, ls, cap, by rw [hl], ⟨by rw [hl]; exact hlc, fun i hi => ?_, fun p hp => ?_⟩, ?_⟩
    · have hcs := (ht i hi (by omega)).1
      obtain ⟨b, off, sp⟩ := ad
      have hsp : sp = none := by
        have h2 := (World.cells?_some (ht 0 (by omega) (by omega)).1).2.2 0 (by decide)
        rw [Nat.zero_mul] at h2
        have h3 : W.cell? (((⟨b, off, sp⟩ : Addr).add 0).add 0) = some (.string (ls[0]'(by omega)).nm) := h2.trans rfl
        have h4 := plain_ofO h3
        unfold Addr.add at h4
        rw [if_pos rfl] at h4
        exact h4
      subst hsp
      refine ⟨b, off, rfl, ?_, ?_⟩
      · have h0 := (World.cells?_some hcs).2.2 0 (by decide)
        rw [Addr.add_lit, Addr.add_lit] at h0
        exact h0.trans rfl
      · have h0 := (World.cells?_some hcs).2.2 1 (by decide)
        rw [Addr.add_lit, Addr.add_lit] at h0
        exact h0.trans rfl
    · obtain ⟨i, hi, rfl⟩ := List.getElem_of_mem hp
      exact (ht i hi (by omega)).2.1
    · have hel2 : elems.length = len := by omega
      have h1 := bulk_sum (elems.map (·.1)) (ls.map fun g => g.ds.length) (by rw [List.length_map, List.length_map]; omega) (fun i h1 h2 => by
        rw [List.length_map] at h1 h2
        rw [List.getElem_map, List.getElem_map]
        exact (ht i h2 (by omega)).2.2)
      rw [List.length_map] at h1
      rw [hd]
      simp only [Rows.uptoBulk]
      unfold szs
      omega
end Go.Proofs.YtaibjeehjhlicaaDoor
