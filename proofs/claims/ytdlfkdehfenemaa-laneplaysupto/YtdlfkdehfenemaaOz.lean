import Derived.Test.YtdlfkdehfenemaaBa
import Derived.SizedLaws
import Derived.ProofKit
import Derived.OpenShut
import Derived.ChangeSame
import Derived.WideKeyArgs
import Derived.DataReads
namespace Go.Proofs.Ytdlfkdehfenemaa
open Go.ChangeShapes Go.WideShapes Go.ChangeAt Go.WideMaps Go.WideElems Go.RowKit TextNum
set_option maxRecDepth 100000 in
theorem cells8 : Try.prog.cellsOf 5 = 1 := by kernel_rfl
theorem plain_of {W : World} {ad : Addr} {v : Value} (h : W.cell? (ad.add 0) = some v) : ad.spot = none := by
  have e : ad.add 0 = ad := by unfold Addr.add; rw [if_pos rfl]
  rw [e] at h
  obtain ⟨b, off, sp⟩ := ad
  cases sp with
  | none => rfl
  | some s => exfalso; simp only [World.cell?] at h; split at h <;> simp at h
theorem sb_open {H : Type} {enc : TypeId × Value → H} {W : World} {fuel : Nat} {l : List Value} {d : DataW H} {ps : List MemPlace}
    (hf' : DataW.trod enc Try.prog W 0 (fun _ => true) true fuel 47 l = some (d, ps)) :
    ∃ v bs, l = [v] ∧ Sb W v bs := by
  rcases open_ints Try.underlying47 Try.underlying5 cells8 hf' with ⟨e1, _⟩ | ⟨ad, len, cap, zs, e1, _, hlc, hcm, hzl, hx, hcell, hwf⟩
  · exact ⟨_, [], e1, ⟨none, 0, rfl, Nat.le_refl _, by simp [maxLen], fun _ => ⟨rfl, rfl⟩, (fun _ e => by cases e)⟩⟩
  · simp only [if_true] at hzl
    have hlen : ((zs.take len).map fun z => UInt8.ofNat z.toNat).length = len := by
      rw [List.length_map, List.length_take, Nat.min_eq_left (by omega)]
    refine ⟨_, (zs.take len).map fun z => UInt8.ofNat z.toNat, e1, ⟨some ad, cap, by rw [hlen], by rw [hlen]; omega, hcm, (fun e => by cases e), fun ad' e => ?_⟩⟩
    obtain rfl := Option.some.inj e
    refine ⟨fun h0 => ?_, fun j u hj => ?_⟩
    · have h1 : 0 < len := by
        rcases Nat.eq_zero_or_pos len with h | h
        · exfalso; apply h0; subst h; simp
        · exact h
      exact plain_of (hcell 0 (by omega))
    · have hj1 : j < len := by
        have := (List.getElem?_eq_some_iff.1 hj).1
        rw [cb_length, hlen] at this
        exact this
      have hj2 : j < zs.length := by omega
      have hz := hwf zs[j] (List.getElem_mem hj2)
      have hb : 0 ≤ zs[j] ∧ zs[j] ≤ 255 := by
        simpa [Lit.wf, IntKind.min, IntKind.max, IntKind.signed, IntKind.bits] using hz
      have h1 := hcell j hj2
      rw [cb_get (by rw [hlen]; exact hj1)] at hj
      rw [h1, ← hj]
      simp only [List.getElem_map, List.getElem_take, List.getD_eq_getElem?_getD, List.getElem?_eq_getElem hj2, Option.getD_some]
      congr 2
      rw [UInt8.toNat_ofNat', Nat.mod_eq_of_lt (by omega)]
      omega
set_option maxRecDepth 100000 in
/-- a list of bytes as an argument -/
theorem open_bytes {H : Type} {enc : TypeId × Value → H} {W : World} {v : Value} {d : DataW H} {ps : List MemPlace} {base : Nat} (hval : Value.okWide Try.prog W .any base 47 v) (h : DataW.Trod enc Try.prog W 0 (fun _ => true) true 47 v d ps) :
    ∃ bs, Sb W v bs := by
  obtain ⟨a, n, c, rfl⟩ := okWide_slice Try.underlying47 hval
  obtain ⟨fuel, hf⟩ := h
  have hf' : DataW.trod enc Try.prog W 0 (fun _ => true) true fuel 47 [.slice a n c] = some (d, ps) := hf
  obtain ⟨v, bs, e, hS⟩ := sb_open hf'
  simp only [List.cons.injEq, and_true] at e
  subst e
  exact ⟨bs, hS⟩
end Go.Proofs.Ytdlfkdehfenemaa
