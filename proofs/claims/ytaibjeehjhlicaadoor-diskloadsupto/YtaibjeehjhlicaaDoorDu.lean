import Derived.Test.YtaibjeehjhlicaaDoorDn
import Derived.ProofKit
import Derived.ShapedOpen
import Derived.Shelf.Vars
namespace Go.Proofs.YtaibjeehjhlicaaDoor
open Go.RowKit TextNum Go.Lib
set_option maxRecDepth 100000 in
theorem mlOf {W : World} (h : W.ShapedOpen Tryd.prog) : ML W :=
  Go.Proofs.cell_of_shapedOpen_int (zero := #[.int .i64 0]) (t := 3) h (of_decide_eq_true (by kernel_rfl)) (by kernel_rfl) rfl (by kernel_rfl) (by kernel_rfl) Tryd.underlying3
theorem ml_lt {W : World} (h : ML W) : 0 < W.heap.size := by
  obtain ⟨m, hm⟩ := h
  rcases Nat.lt_or_ge 0 W.heap.size with h1 | h1
  · exact h1
  · exfalso
    simp [World.cell?, Array.getElem?_eq_none h1] at hm
end Go.Proofs.YtaibjeehjhlicaaDoor
