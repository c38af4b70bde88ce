import Derived.Test.YtgfehlcindapmaaIb
import Derived.Test.YtgfehlcindapmaaOz
import Derived.Deep.Slices
namespace Go.Proofs.Ytgfehlcindapmaa
open Go.ChangeShapes Go.WideShapes Go.ChangeAt Go.WideMaps Go.WideElems Go.RowKit TextNum
set_option maxRecDepth 100000 in
theorem cellsI : Try.prog.cellsOf 3 = 1 := by kernel_rfl
set_option maxRecDepth 100000 in
theorem cellsB : Try.prog.cellsOf 4 = 1 := by kernel_rfl
set_option maxRecDepth 100000 in
/-- a list of numbers as an argument -/
theorem open_sint {H : Type} {enc : TypeId × Value → H} {W : World} {v : Value} {d : DataW H} {ps : List MemPlace} {base : Nat} (hval : Value.okWide Try.prog W .any base 51 v) (h : DataW.Trod enc Try.prog W 0 (fun _ => true) true 51 v d ps) :
    ∃ zs, IL W v zs := by
  obtain ⟨a, n, c, rfl⟩ := okWide_slice Try.underlying51 hval
  obtain ⟨fuel, hf⟩ := h
  have hf' : DataW.trod enc Try.prog W 0 (fun _ => true) true fuel 51 [.slice a n c] = some (d, ps) := hf
  rcases open_ints Try.underlying51 Try.underlying3 cellsI hf' with ⟨e1, _⟩ | ⟨ad, len, cap, zs, e1, _, hlc, hcm, hzl, hx, hcell, hwf⟩
  · simp only [List.cons.injEq, and_true] at e1
    rw [e1]
    exact ⟨[], none, 0, rfl, Nat.le_refl _, fun j z hz => (by cases hz)⟩
  · simp only [List.cons.injEq, and_true] at e1
    rw [e1]
    simp only [if_true] at hzl
    have hlen : (zs.take len).length = len := by rw [List.length_take, Nat.min_eq_left (by omega)]
    refine ⟨zs.take len, some ad, cap, by rw [hlen], by rw [hlen]; omega, fun j z hz => ?_⟩
    obtain ⟨hj, e⟩ := List.getElem?_eq_some_iff.1 hz
    have hj1 : j < len := by rw [hlen] at hj; exact hj
    have hj2 : j < zs.length := by omega
    have hs := plain_of (hcell 0 (by omega))
    obtain ⟨b, o, s⟩ := ad
    obtain rfl : s = none := hs
    refine ⟨b, o, rfl, ?_⟩
    have h1 := hcell j hj2
    rw [Addr.add_lit] at h1
    rw [h1]
    rw [List.getElem_take] at e
    simp only [List.getD_eq_getElem?_getD, List.getElem?_eq_getElem hj2, Option.getD_some, e]
def bof : Value → Bool
  | .bool b => b
  | _ => false
set_option maxRecDepth 100000 in
/-- a list of yes and no as an argument -/
theorem open_sbool {H : Type} {enc : TypeId × Value → H} {W : World} {v : Value} {d : DataW H} {ps : List MemPlace} {base : Nat} (hval : Value.okWide Try.prog W .any base 52 v) (h : DataW.Trod enc Try.prog W 0 (fun _ => true) true 52 v d ps) :
    ∃ bs, BL W v bs := by
  obtain ⟨a, n, c, rfl⟩ := okWide_slice Try.underlying52 hval
  obtain ⟨fuel, hf⟩ := h
  have hf' : DataW.trod enc Try.prog W 0 (fun _ => true) true fuel 52 [.slice a n c] = some (d, ps) := hf
  rcases Go.Deep.open_slice1 Try.underlying52 cellsB hf' with ⟨e1, _⟩ | ⟨ad, len, cap, m, nn, V, D, Pl, e1, _, hlc, _, hm, _, hcell⟩
  · simp only [List.cons.injEq, and_true] at e1
    rw [e1]
    exact ⟨[], none, 0, rfl, Nat.le_refl _, fun j z hz => (by cases hz)⟩
  · simp only [List.cons.injEq, and_true] at e1
    rw [e1]
    simp only [if_true] at hm
    have hlen : ((List.range len).map fun i => bof (V i)).length = len := by rw [List.length_map, List.length_range]
    refine ⟨(List.range len).map fun i => bof (V i), some ad, cap, by rw [hlen], by rw [hlen]; exact hlc, fun j z hz => ?_⟩
    obtain ⟨hj, e⟩ := List.getElem?_eq_some_iff.1 hz
    have hj1 : j < len := by rw [hlen] at hj; exact hj
    have hs := plain_of (hcell 0 (by omega)).1
    obtain ⟨b, o, s⟩ := ad
    obtain rfl : s = none := hs
    refine ⟨b, o, rfl, ?_⟩
    obtain ⟨h1, h2⟩ := hcell j (by omega)
    obtain ⟨y, hy, _⟩ := DataW.trod_bool Try.underlying4 h2
    simp only [List.cons.injEq, and_true] at hy
    rw [Addr.add_lit] at h1
    rw [h1]
    simp only [List.getElem_map, List.getElem_range, hy, bof] at e
    rw [hy, e]
end Go.Proofs.Ytgfehlcindapmaa
