import Derived.Test.YtdebcddbjkejmaaDoorNu
namespace Go.Proofs.YtdebcddbjkejmaaDoor
open Go.RowKit TextNum

structure GA (w : World) : Prop where
  d : TabD w
  l : TabL w
  n : GN w
theorem GA.up {w w' : World} (h : GA w) (k : Up w w') : GA w' := ⟨h.d.up k, h.l.up k, h.n.up k⟩

end Go.Proofs.YtdebcddbjkejmaaDoor
