import Derived.Test.YtfmdaollnjnhgaaDoorTw
import Derived.Test.YtfmdaollnjnhgaaDoorPb
namespace Go.Proofs.YtfmdaollnjnhgaaDoor
open Go.RowKit TextNum

def TabL (w : World) : Prop := ∀ i, i < 64 → w.cell? ⟨1, i, none⟩ = some (vb (lt i))
theorem TabL.up {w w' : World} (h : TabL w) (k : Up w w') : TabL w' := fun i hi => k.cell (h i hi)
end Go.Proofs.YtfmdaollnjnhgaaDoor
