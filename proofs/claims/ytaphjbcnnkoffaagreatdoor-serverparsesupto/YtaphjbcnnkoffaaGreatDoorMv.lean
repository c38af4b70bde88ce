import Derived.Test.YtaphjbcnnkoffaaGreatDoorMu
namespace Go.Proofs.YtaphjbcnnkoffaaGreatDoor
open Go.RowKit Go.Shelf TextNum ModNum
end Go.Proofs.YtaphjbcnnkoffaaGreatDoor
