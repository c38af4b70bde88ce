import Derived.Test.YtaibjeehjhlicaaDoorYad
namespace Go.Proofs.YtaibjeehjhlicaaDoor
open Go.RowKit Go.Shelf TextNum ModNum
theorem frs_lies {w : World} {o : Obj} {v : Value} {g n c : Nat} (h : v.ownBlock = some g ∨ g = (w.alloc o).drew.heap.size) : Frs w v (.slice (some ⟨g, 0, none⟩) n c) := fun k hk => by
  obtain rfl : g = k := Option.some.inj hk
  rcases h with h | h
  · exact .inl h
  · refine .inr ?_
    rw [h]
    show w.heap.size ≤ (w.heap.push o).size
    simp
end Go.Proofs.YtaibjeehjhlicaaDoor
