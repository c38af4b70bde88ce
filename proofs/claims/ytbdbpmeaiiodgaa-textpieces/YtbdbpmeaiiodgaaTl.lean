import Derived.Test.YtbdbpmeaiiodgaaTw
namespace Go.Proofs.Ytbdbpmeaiiodgaa
open Go.RowKit TextNum
set_option maxRecDepth 100000 in
theorem tooLongP_walk (s : ByteArray) (w : World) : Calls Try.prog 6 #[.string s] w fun e w' => e = .returned (.bool (decide (1048576 < s.size))) ∧ w' = w := by
  go_enter Try.func6, Try.ntmps6
  go_wp2
  go_ret
  refine ⟨congrArg (fun b => Ending.returned (Value.bool b)) (show decide ((1048576 : Int) < (s.size : Int)) = decide (1048576 < s.size) from ?_), rfl⟩
  rw [decide_eq_decide]
  omega
end Go.Proofs.Ytbdbpmeaiiodgaa
