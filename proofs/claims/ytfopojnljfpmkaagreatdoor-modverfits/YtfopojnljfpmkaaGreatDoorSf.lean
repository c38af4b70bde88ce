import Derived.Test.YtfopojnljfpmkaaGreatDoorSl
import Derived.Test.YtfopojnljfpmkaaGreatDoorTb
import Derived.Lib.Strings
namespace Go.Proofs.YtfopojnljfpmkaaGreatDoor
open Go.RowKit TextNum
theorem TrimSuffix_walk (s p : ByteArray) (w : World) (hs : s.size ≤ 9223372036854775807) : Calls Tryz.prog 137 #[.string s, .string p] w fun e w' => e = .returned (.string ⟨(Go.Lib.trimSuffix s.data.toList p.data.toList).toArray⟩) ∧ w' = w :=
  Any.strings_TrimSuffix Tryz.lays102 s p w hs

/-! plain facts -/
end Go.Proofs.YtfopojnljfpmkaaGreatDoor
