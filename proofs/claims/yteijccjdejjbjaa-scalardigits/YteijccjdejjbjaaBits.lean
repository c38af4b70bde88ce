import Derived.Test.YteijccjdejjbjaaRows
import Derived.Test.YteijccjdejjbjaaDg
import Derived.Shelf.Spec.BitsCarry
import Derived.WalkKit
import Derived.WalkSpells
import Derived.StillTactics
import Derived.Laws.Pointers
import Derived.RowKit3
import Derived.Handy
namespace Go.Proofs.Yteijccjdejjbjaa
open Go.RowKit Go.Shelf ScalarNum

def Try.lays25_ren : Go.Shelf.Ren := ⟨fun | 25 => 16 | n => n, fun | 22 => 36 | n => n, fun | n => n⟩
theorem Try.lays25 : Go.Proofs.Lays7.n25 Try.prog Try.lays25_ren := {
  mixed := by kernel_rfl
  f25 := Try.func16.trans (congrArg some (by kernel_rfl))
  t22 := Try.underlying36
  a22 := Try.isAgg36
  z22 := Try.sizeOf36
  v22 := Try.zeroValue36
  i22 := by kernel_rfl }
/-- the sum of two words and a carry -/
theorem add64 (x y c : Nat) (hc : c ≤ 1) (w : World) :
    (callFunc 16 #[.int .u64 (x : Int), .int .u64 (y : Int), .int .u64 (c : Int)]).run Try.prog w =
    .ok (.value (.tuple #[.int .u64 (((x + y + c) % 18446744073709551616 : Nat) : Int), .int .u64 (((x + y + c) / 18446744073709551616 : Nat) : Int)])) w :=
  Any7.bits_Add64 Try.lays25 x y c (by omega) w

end Go.Proofs.Yteijccjdejjbjaa
