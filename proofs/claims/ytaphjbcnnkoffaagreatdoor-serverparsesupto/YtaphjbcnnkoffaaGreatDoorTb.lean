import Derived.Test.YtaphjbcnnkoffaaGreatDoorTw
import Derived.Test.YtaphjbcnnkoffaaGreatDoorPb
namespace Go.Proofs.YtaphjbcnnkoffaaGreatDoor
open Go.RowKit TextNum

def TabL (w : World) : Prop := ∀ i, i < 64 → w.cell? ⟨8, i, none⟩ = some (vb (lt i))
theorem TabL.up {w w' : World} (h : TabL w) (k : Up w w') : TabL w' := fun i hi => k.cell (h i hi)
end Go.Proofs.YtaphjbcnnkoffaaGreatDoor
