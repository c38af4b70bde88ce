import Derived.Test.YtaobnnlcfefodaaGreatDoorTw
import Derived.Test.YtaobnnlcfefodaaGreatDoorPb
namespace Go.Proofs.YtaobnnlcfefodaaGreatDoor
open Go.RowKit TextNum

def TabL (w : World) : Prop := ∀ i, i < 64 → w.cell? ⟨0, i, none⟩ = some (vb (lt i))
theorem TabL.up {w w' : World} (h : TabL w) (k : Up w w') : TabL w' := fun i hi => k.cell (h i hi)
end Go.Proofs.YtaobnnlcfefodaaGreatDoor
