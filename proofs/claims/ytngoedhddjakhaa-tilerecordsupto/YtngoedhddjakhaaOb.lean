import Derived.Test.YtngoedhddjakhaaJo
import Derived.SizedLaws
import Derived.ProofKit
import Derived.OpenShut
import Derived.ChangeSame
import Derived.WideKeyArgs
import Derived.DataReads
namespace Go.Proofs.Ytngoedhddjakhaa
open Go.ChangeShapes Go.WideShapes Go.ChangeAt Go.WideMaps Go.WideElems Go.RowKit TextNum
set_option maxRecDepth 100000 in
theorem cells8' : Try.prog.cellsOf 5 = 1 := by kernel_rfl
theorem ofNat_toNat8 {n : Nat} (h : n < 256) : (UInt8.ofNat n).toNat = n := by simp; omega
theorem sl_openW {H : Type} {enc : TypeId × Value → H} {W : World} {fuel : Nat} {l : List Value} {d : DataW H} {ps : List MemPlace}
    (hf' : DataW.trod enc Try.prog W 0 (fun _ => true) true fuel 23 l = some (d, ps)) :
    ∃ a c bs, l = [.slice a bs.length c] ∧ Sl W (.slice a bs.length c) bs := by
  rcases open_ints Try.underlying23 Try.underlying5 cells8' hf' with ⟨e1, _⟩ | ⟨ad, len, cap, zs, e1, _, hlc, _, hzl, hx, hcell, hwf⟩
  · exact ⟨none, 0, [], e1, ⟨none, 0, rfl, Nat.le_refl _, .inl rfl⟩⟩
  · simp only [if_true] at hzl
    have hlen : ((zs.take len).map fun z => UInt8.ofNat z.toNat).length = len := by
      rw [List.length_map, List.length_take, Nat.min_eq_left (by omega)]
    refine ⟨some ad, cap, (zs.take len).map fun z => UInt8.ofNat z.toNat, by rw [hlen]; exact e1, ⟨some ad, cap, rfl, by rw [hlen]; omega, ?_⟩⟩
    rcases Nat.eq_zero_or_pos len with h0 | h0
    · left; subst h0; simp
    · right
      have h00 := hcell 0 (by omega)
      obtain ⟨b, off, rfl⟩ : ∃ b off, ad = ⟨b, off, none⟩ := by
        obtain ⟨b, off, sp⟩ := ad
        cases sp with
        | none => exact ⟨b, off, rfl⟩
        | some s => exfalso; simp only [World.cell?, Addr.add] at h00; split at h00 <;> simp at h00
      refine ⟨b, off, rfl, lt_of_cell (i := off + 0) (by rw [add_plain] at h00; exact h00), fun i hi => ?_⟩
      rw [hlen] at hi
      have h1 := hcell i (by omega)
      rw [add_plain] at h1
      rw [h1]
      have hi2 : i < zs.length := by omega
      have hz := hwf zs[i] (List.getElem_mem hi2)
      have hb : 0 ≤ zs[i] ∧ zs[i] ≤ 255 := by
        simpa [Lit.wf, IntKind.min, IntKind.max, IntKind.signed, IntKind.bits] using hz
      simp only [List.getElem_map, List.getElem_take, List.getD_eq_getElem?_getD, List.getElem?_eq_getElem hi2, Option.getD_some]
      congr 2
      rw [ofNat_toNat8 (by omega)]
      omega
/-- a list of bytes as an argument -/
theorem sl_open {H : Type} {enc : TypeId × Value → H} {W : World} {v : Value} {d : DataW H} {ps : List MemPlace} (h : DataW.Trod enc Try.prog W 0 (fun _ => true) true 23 v d ps) (a : Option Addr) (len cap : Nat) (hv : v = .slice a len cap) :
    ∃ l, l.length = len ∧ Sl W v l := by
  subst hv
  obtain ⟨fuel, hf⟩ := h
  have hf' : DataW.trod enc Try.prog W 0 (fun _ => true) true fuel 23 [.slice a len cap] = some (d, ps) := hf
  obtain ⟨a', c', l, e, hS⟩ := sl_openW hf'
  simp only [List.cons.injEq, Value.slice.injEq, and_true] at e
  obtain ⟨rfl, rfl, rfl⟩ := e
  exact ⟨l, rfl, hS⟩
set_option maxRecDepth 100000 in
theorem cellsSl : Try.prog.cellsOf 23 = 1 := by kernel_rfl
/-- a list of lists of bytes as an argument -/
theorem slT_open {H : Type} {enc : TypeId × Value → H} {W : World} {v : Value} {d : DataW H} {ps : List MemPlace} (h : DataW.Trod enc Try.prog W 0 (fun _ => true) true 22 v d ps) (a : Option Addr) (len cap : Nat) (hv : v = .slice a len cap) :
    ∃ rs, rs.length = len ∧ SlT W v rs := by
  subst hv
  obtain ⟨fuel, hf⟩ := h
  have hf' : DataW.trod enc Try.prog W 0 (fun _ => true) true fuel 22 [.slice a len cap] = some (d, ps) := hf
  rcases DataW.trod_slice Try.underlying22 hf' with ⟨e1, _⟩ | ⟨ad, l2, c2, elems, rest, n, _, e1, hx, _, hlc, _, hel0, hel, _, _⟩
  · simp only [List.cons.injEq, Value.slice.injEq, and_true] at e1
    obtain ⟨rfl, rfl, rfl⟩ := e1
    exact ⟨[], rfl, slT_nil W⟩
  · simp only [List.cons.injEq, Value.slice.injEq, and_true] at e1
    obtain ⟨rfl, rfl, rfl⟩ := e1
    rw [cellsSl] at hel
    obtain ⟨rs, hrl, hrs⟩ := list_choose (P := fun i (r : List UInt8) => ∃ u, W.cell? (ad.add i) = some u ∧ Sl W u r) len (fun i hi => by
      have h1 := hel i hi
      rw [List.getElem?_eq_getElem (by omega), Option.bind_eq_some_iff] at h1
      obtain ⟨cs, hcs, hy⟩ := h1
      obtain ⟨a', c', bs, rfl, hS⟩ := sl_openW hy
      have h2 := (World.cells?_some hcs).2.2 0 (by decide)
      rw [Nat.mul_one] at h2
      refine ⟨bs, _, ?_, hS⟩
      have e : (ad.add i).add 0 = ad.add i := by
        obtain ⟨b, off, sp⟩ := ad
        unfold Addr.add
        split <;> simp_all
      rw [e] at h2
      exact h2)
    refine ⟨rs, hrl, some ad, cap, by rw [hrl], by omega, ?_⟩
    rcases Nat.eq_zero_or_pos len with h0 | h0
    · left; exact List.eq_nil_of_length_eq_zero (by omega)
    · right
      obtain ⟨u0, h00, _⟩ := hrs 0 (by omega)
      obtain ⟨b, off, rfl⟩ : ∃ b off, ad = ⟨b, off, none⟩ := by
        obtain ⟨b, off, sp⟩ := ad
        cases sp with
        | none => exact ⟨b, off, rfl⟩
        | some s => exfalso; simp only [World.cell?, Addr.add] at h00; split at h00 <;> simp at h00
      refine ⟨b, off, rfl, lt_of_cell (i := off + 0) (by rw [add_plain] at h00; exact h00), fun i hi => ?_⟩
      obtain ⟨u, h1, h2⟩ := hrs i hi
      rw [add_plain] at h1
      exact ⟨u, h1, h2⟩
theorem okWide_slice_le {P : Program} {W : World} {r : Reach} {base : Nat} {t e : TypeId} {v : Value} (ht : P.underlying t = some (.slice e)) (h : Value.okWide P W r base t v) : ∃ a len cap, v = .slice a len cap ∧ (len : Int) ≤ 9223372036854775807 := by
  obtain ⟨a, len, cap, rfl⟩ := okWide_slice ht h
  refine ⟨a, len, cap, rfl, ?_⟩
  simp only [Value.okWide, ht, Cell.okWide] at h
  cases a with
  | none =>
    cases len with
    | zero => decide
    | succ n => simp [Cell.ok, ht] at h
  | some ad =>
    simp only [Cell.ok, ht] at h
    have h1 := h.1
    have h2 : (cap : Int) ≤ 9223372036854775807 := h.2.1
    omega

end Go.Proofs.Ytngoedhddjakhaa
