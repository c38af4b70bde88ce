import Derived.Test.YtnciglpdjpckiaaGreatDoorSl
import Derived.Test.YtnciglpdjpckiaaGreatDoorTb
import Derived.Lib.Strings
namespace Go.Proofs.YtnciglpdjpckiaaGreatDoor
open Go.RowKit TextNum
theorem TrimSuffix_walk (s p : ByteArray) (w : World) (hs : s.size ≤ 9223372036854775807) : Calls Tryz.prog 137 #[.string s, .string p] w fun e w' => e = .returned (.string ⟨(Go.Lib.trimSuffix s.data.toList p.data.toList).toArray⟩) ∧ w' = w :=
  Any.strings_TrimSuffix Tryz.lays102 s p w hs

/-! plain facts -/
end Go.Proofs.YtnciglpdjpckiaaGreatDoor
