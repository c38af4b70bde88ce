import Derived.Test.YtoimglbjepppmaaDoorMe
import Derived.Test.YtoimglbjepppmaaDoorMh
import Derived.ProofKit
import Derived.ChangeSame
namespace Go.Proofs.YtoimglbjepppmaaDoor
open Go.ChangeShapes Go.WideShapes Go.ChangeAt Go.RowKit Go.Shelf FieldNum

set_option maxRecDepth 100000 in
theorem open32l {H : Type} {enc : TypeId × Value → H} {W : World} {fuel : Nat} {l : List Value} {d : DataW H} {q : List MemPlace}
    (hf' : DataW.trod enc Tryd.prog W 0 (fun _ => true) true fuel 23 l = some (d, q)) :
    ∃ a : Nat, a < M ∧ l = bl a ∧ d = da H a ∧ q = [] := by
  obtain ⟨xs, m, rfl, hx, hlen, hxl, hel⟩ := DataW.trod_array Tryd.underlying23 hf'
  rw [cells8] at hel
  have hl : l.length = 32 := hlen.trans cells32
  have hcell : ∀ i, i < 32 → ∃ n : Nat, n < 256 ∧ l[i]? = some (.int .u8 (n : Int)) := by
    intro i hi
    have h1 := hel i hi
    rw [Nat.mul_one, List.drop_eq_getElem_cons (by omega), List.take_succ_cons, List.take_zero, List.getElem?_eq_getElem (by omega)] at h1
    obtain ⟨z, e0, _, w0⟩ := DataW.trod_int Tryd.underlying5 h1
    simp at e0
    have hb : 0 ≤ z ∧ z ≤ 255 := by
      simpa [Lit.wf, IntKind.min, IntKind.max, IntKind.signed, IntKind.bits] using w0
    refine ⟨z.toNat, by omega, ?_⟩
    rw [List.getElem?_eq_getElem (by omega), e0]
    congr 2
    omega
  obtain ⟨a, ha, hd⟩ := exists_digits (fun i => if hi : i < 32 then (hcell i hi).choose else 0) (fun i => by
    by_cases hi : i < 32
    · simp only [hi, ↓reduceDIte]; exact (hcell i hi).choose_spec.1
    · simp [hi]) 32
  have e32 : 256 ^ 32 = M := by decide
  rw [e32] at ha
  have el : l = bl a := by
    apply List.ext_getElem?
    intro i
    by_cases hi : i < 32
    · rw [bl_get a i hi, hd i hi]
      simp only [hi, ↓reduceDIte]
      exact (hcell i hi).choose_spec.2
    · rw [List.getElem?_eq_none (by omega), List.getElem?_eq_none (by rw [bl_length]; omega)]
  subst el
  have hm : m ≠ 0 := by
    rintro rfl
    have h1 := hel 0 (by decide)
    rw [List.getElem?_eq_getElem (by omega)] at h1
    simp [DataW.trod] at h1
  obtain ⟨m', rfl⟩ := Nat.exists_eq_succ_of_ne_zero hm
  have := trod32 enc W 0 (fun _ => true) true m' a
  rw [hf'] at this
  injection this with this
  injection this with e1 e2
  exact ⟨a, ha, rfl, e1, e2⟩

set_option maxRecDepth 100000 in
theorem cellsQ : Tryd.prog.cellsOf 39 = 64 := by kernel_rfl
/-- what is read of two numbers -/
def dq (H : Type) (x y : Nat) : DataW H := .agg [da H x, da H y]
set_option maxRecDepth 100000 in
theorem openQ {H : Type} {enc : TypeId × Value → H} {W : World} {base : Nat} {v : Value} {d : DataW H} {q : List MemPlace}
    (hval : Value.okWide Tryd.prog W .any base 39 v) (h : DataW.Trod enc Tryd.prog W 0 (fun _ => true) true 39 v d q) :
    ∃ x y : Nat, x < M ∧ y < M ∧ v = pv x y ∧ d = dq H x y ∧ q = [] := by
  obtain ⟨cs, rfl, hsz⟩ := okWide_struct Tryd.underlying39 hval
  rw [cellsQ] at hsz
  obtain ⟨l⟩ := cs
  have hl : l.length = 64 := by simpa using hsz
  obtain ⟨fuel, hf⟩ := h
  have hf' : DataW.trod enc Tryd.prog W 0 (fun _ => true) true fuel 39 l = some (d, q) := hf
  obtain ⟨y0, y1, n, hx, _, h0, h1⟩ := trod_struct2 Tryd.underlying39 hf'
  have h0' : DataW.trod enc Tryd.prog W 0 (fun _ => true) true n 23 ((l.drop 0).take (Tryd.prog.cellsOf 23)) = some (y0.1, y0.2) := h0
  have h1' : DataW.trod enc Tryd.prog W 0 (fun _ => true) true n 23 ((l.drop 32).take (Tryd.prog.cellsOf 23)) = some (y1.1, y1.2) := h1
  rw [cells32] at h0' h1'
  obtain ⟨x, hxM, ex, edx, eqx⟩ := open32l h0'
  obtain ⟨y, hyM, ey, edy, eqy⟩ := open32l h1'
  injection hx with hd hq
  refine ⟨x, y, hxM, hyM, ?_, ?_, ?_⟩
  · have e : l = pcs x y := by
      have e1 : (l.drop 32).take 32 = l.drop 32 := List.take_of_length_le (by simp; omega)
      rw [List.drop_zero] at ex
      rw [e1] at ey
      unfold pcs
      rw [← ex, ← ey, List.take_append_drop]
    rw [e]; rfl
  · rw [hd, edx, edy]; rfl
  · rw [hq, eqx, eqy]; rfl
set_option maxRecDepth 100000 in
theorem shutQ {H : Type} (enc : TypeId × Value → H) (W : World) (sp : Nat → Bool) (x y : Nat) : DataW.Trod enc Tryd.prog W 0 sp true 39 (pv x y) (dq H x y) [] := by
  refine ⟨3, trod_struct2_mk (enc := enc) (w := W) (base := 0) (spare := sp) (held := true) (n := 2) (cs := pcs x y) (y0 := (da H x, [])) (y1 := (da H y, [])) Tryd.underlying39 (by rw [cellsQ, pcs_length]) ?_ ?_⟩
  · show DataW.trod enc Tryd.prog W 0 sp true 2 23 (((pcs x y).drop 0).take (Tryd.prog.cellsOf 23)) = _
    have e : ((pcs x y).drop 0).take 32 = bl x := by unfold pcs; rw [List.drop_zero, List.take_append_of_le_length (by rw [bl_length]; decide), List.take_of_length_le (by rw [bl_length]; decide)]
    rw [cells32, e]; exact trod32 enc W 0 sp true 0 x
  · show DataW.trod enc Tryd.prog W 0 sp true 2 23 (((pcs x y).drop 32).take (Tryd.prog.cellsOf 23)) = _
    have e : ((pcs x y).drop 32).take 32 = bl y := by unfold pcs; rw [List.drop_append_of_le_length (by rw [bl_length]; decide), List.drop_of_length_le (by rw [bl_length]; decide), List.nil_append, List.take_of_length_le (by rw [bl_length]; decide)]
    rw [cells32, e]; exact trod32 enc W 0 sp true 0 y
end Go.Proofs.YtoimglbjepppmaaDoor
