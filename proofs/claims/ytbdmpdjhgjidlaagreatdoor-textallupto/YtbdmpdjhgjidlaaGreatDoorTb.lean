import Derived.Test.YtbdmpdjhgjidlaaGreatDoorTw
import Derived.Test.YtbdmpdjhgjidlaaGreatDoorPb
namespace Go.Proofs.YtbdmpdjhgjidlaaGreatDoor
open Go.RowKit TextNum

/-- the table of digits is laid -/
def TabD (w : World) : Prop := ∀ i, i < 16 → w.cell? ⟨1, i, none⟩ = some (vb (dg i))
theorem TabD.up {w w' : World} (h : TabD w) (k : Up w w') : TabD w' := fun i hi => k.cell (h i hi)
def TabL (w : World) : Prop := ∀ i, i < 64 → w.cell? ⟨0, i, none⟩ = some (vb (lt i))
theorem TabL.up {w w' : World} (h : TabL w) (k : Up w w') : TabL w' := fun i hi => k.cell (h i hi)
end Go.Proofs.YtbdmpdjhgjidlaaGreatDoor
