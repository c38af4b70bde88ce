import Derived.Test.YtfnbodpbdfeiiaaDoorLess
import Derived.Test.YtfnbodpbdfeiiaaDoorPrime
namespace Go.Proofs.YtfnbodpbdfeiiaaDoor
open Go.RowKit Go.Shelf FieldNum

theorem p_lt_M : p < M := by decide +kernel
theorem finv_lt (x : Nat) : inv x < M := lt256 (inv_lt x)

theorem wpList_val {ops : Array Oper} {Q : Exit → Act → World → Prop} {rest : List Oper} {o : Oper} {a : Act} {w : World} (v : Value) (hgd : o.guard = none) (hy : (execOp a.eval o).run Tryd.prog w = .ok (.value v) w)
    (h : wpList Tryd.prog ops Q rest (a.put o.dst v) w) : wpList Tryd.prog ops Q (o :: rest) a w :=
  wpList_plain hgd fun _ hK => by
    unfold Oper.wp
    rw [hy]
    exact hK _ _ h

theorem less_true (x y : Nat) (hx : x < M) (hy : y < M) (h : x < y) (w : World) :
    Calls Tryd.prog 18 #[bv x, bv y] w fun e w' => e = .returned (.bool true) ∧ Grown w w' := by
  have := less_any x y hx hy w
  rwa [decide_eq_true h] at this
end Go.Proofs.YtfnbodpbdfeiiaaDoor
