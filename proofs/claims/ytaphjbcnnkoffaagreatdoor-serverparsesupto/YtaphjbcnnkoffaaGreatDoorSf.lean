import Derived.Test.YtaphjbcnnkoffaaGreatDoorSl
import Derived.Test.YtaphjbcnnkoffaaGreatDoorTb
import Derived.Lib.Strings
namespace Go.Proofs.YtaphjbcnnkoffaaGreatDoor
open Go.RowKit TextNum
theorem TrimSuffix_walk (s p : ByteArray) (w : World) (hs : s.size ≤ 9223372036854775807) : Calls Tryz.prog 134 #[.string s, .string p] w fun e w' => e = .returned (.string ⟨(Go.Lib.trimSuffix s.data.toList p.data.toList).toArray⟩) ∧ w' = w :=
  Any.strings_TrimSuffix Tryz.lays102 s p w hs

/-! plain facts -/
end Go.Proofs.YtaphjbcnnkoffaaGreatDoor
