import Derived.Test.YtaphjbcnnkoffaaGreatDoorCd
import Derived.Deep.RegionWith
namespace Go.Proofs.YtaphjbcnnkoffaaGreatDoor
open Go.RowKit Go.Shelf TextNum ModNum
end Go.Proofs.YtaphjbcnnkoffaaGreatDoor
