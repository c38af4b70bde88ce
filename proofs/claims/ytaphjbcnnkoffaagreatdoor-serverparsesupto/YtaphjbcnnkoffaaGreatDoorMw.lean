import Derived.Test.YtaphjbcnnkoffaaGreatDoorMv
namespace Go.Proofs.YtaphjbcnnkoffaaGreatDoor
open Go.RowKit Go.Shelf TextNum ModNum
theorem cmp3_step {a b : List (List UInt8)} {i : Nat} {x y : List UInt8} (hx : a[i]? = some x) (hy : b[i]? = some y) : cmp3 (a.drop i) (b.drop i) = if cmpU x y = 0 then cmp3 (a.drop (i + 1)) (b.drop (i + 1)) else cmpU x y := by
  obtain ⟨h1, e1⟩ := List.getElem?_eq_some_iff.1 hx
  obtain ⟨h2, e2⟩ := List.getElem?_eq_some_iff.1 hy
  rw [List.drop_eq_getElem_cons h1, List.drop_eq_getElem_cons h2, e1, e2]
  rfl
theorem pc_get {n0 n1 n2 : List UInt8} {v : Value} {inc : Bool} {i : Nat} (hi : i < 3) : ∃ x, [n0, n1, n2][i]? = some x ∧ (pc5 n0 n1 n2 v inc).toList[i]? = some (.string ⟨x.toArray⟩) := by
  obtain rfl | rfl | rfl : i = 0 ∨ i = 1 ∨ i = 2 := by omega
  · exact ⟨n0, rfl, rfl⟩
  · exact ⟨n1, rfl, rfl⟩
  · exact ⟨n2, rfl, rfl⟩
end Go.Proofs.YtaphjbcnnkoffaaGreatDoor
