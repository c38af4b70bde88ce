import Derived.Test.YtfnbodpbdfeiiaaDoorPow
import Derived.Test.YtfnbodpbdfeiiaaDoorInts
namespace Go.Proofs.YtfnbodpbdfeiiaaDoor
open Go.RowKit Go.Shelf FieldNum

theorem wpList_store_var {ops : Array Oper} {rest : List Oper} {op : Oper} {a : Act} {w : World} {Q : Exit → Act → World → Prop} (hgd : op.guard = none) (x y : Operand) (ho : op.op = .store 22 x y)
    (b n : Nat) (hx : a.eval x = .pointer (some ⟨b, 0, none⟩)) (hy : a.eval y = bv n) (ht : w.there b 0 32)
    (h : ∀ w2, w2 = w.setCells b 0 (bl n) → wpList Tryd.prog ops Q rest (a.put op.dst undef) w2) : wpList Tryd.prog ops Q (op :: rest) a w :=
  wpList_store32 hgd x y ho b n hx hy ht (h _ rfl)

section
variable {o : Oper} {ρ : Operand → Value} {x y : Operand} {t : TypeId} {w : World}
theorem exec_quo8 (ho : o.op = .binOp .quo 3 x y t) (k : Nat) (hk : k < 1000) (hx : ρ x = .int .i64 (k : Int)) (hy : ρ y = .int .i64 8) : (execOp ρ o).run Tryd.prog w = .ok (.value (.int .i64 ((k / 8 : Nat) : Int))) w := by
  have h : (k : Int).tdiv 8 = ((k / 8 : Nat) : Int) := by rw [Int.tdiv_eq_ediv_of_nonneg (by omega)]; omega
  have hw : IntKind.i64.wrap ((k : Int) / 8) = (k : Int) / 8 := by rw [IntKind.wrap_i64]; omega
  unfold execOp
  simp only [ho, hx, hy]
  simp [go_sem, h, hw]
theorem exec_rem8I (ho : o.op = .binOp .rem 3 x y t) (k : Nat) (hx : ρ x = .int .i64 (k : Int)) (hy : ρ y = .int .i64 8) : (execOp ρ o).run Tryd.prog w = .ok (.value (.int .i64 ((k % 8 : Nat) : Int))) w := by
  have h : (k : Int).tmod 8 = ((k % 8 : Nat) : Int) := by rw [Int.tmod_eq_emod_of_nonneg (by omega)]; omega
  unfold execOp
  simp only [ho, hx, hy]
  simp [go_sem, h]
theorem exec_rem2I (ho : o.op = .binOp .rem 3 x y t) (k : Nat) (hx : ρ x = .int .i64 (k : Int)) (hy : ρ y = .int .i64 2) : (execOp ρ o).run Tryd.prog w = .ok (.value (.int .i64 ((k % 2 : Nat) : Int))) w := by
  have h : (k : Int).tmod 2 = ((k % 2 : Nat) : Int) := by rw [Int.tmod_eq_emod_of_nonneg (by omega)]; omega
  unfold execOp
  simp only [ho, hx, hy]
  simp [go_sem, h]
theorem exec_shr8u (ho : o.op = .binOp .shr 5 x y t) (c j : Nat) (hj : j < 8) (hx : ρ x = .int .u8 (c : Int)) (hy : ρ y = .int .u64 (j : Int)) : (execOp ρ o).run Tryd.prog w = .ok (.value (.int .u8 ((c / 2 ^ j : Nat) : Int))) w := by
  have h8 : j = 0 ∨ j = 1 ∨ j = 2 ∨ j = 3 ∨ j = 4 ∨ j = 5 ∨ j = 6 ∨ j = 7 := by omega
  unfold execOp
  simp only [ho, hx, hy]
  rcases h8 with rfl | rfl | rfl | rfl | rfl | rfl | rfl | rfl <;> simp [go_sem]
theorem exec_convU (ho : o.op = .convert 3 25 x) (j : Nat) (hj : j < 8) (hx : ρ x = .int .i64 (j : Int)) : (execOp ρ o).run Tryd.prog w = .ok (.value (.int .u64 (j : Int))) w := by
  have hw : IntKind.u64.wrap (j : Int) = (j : Int) := by rw [IntKind.wrap_u64]; omega
  unfold execOp
  simp only [ho, hx]
  simp [go_sem, hw]
theorem exec_convI (ho : o.op = .convert 5 3 x) (j : Nat) (hj : j < 256) (hx : ρ x = .int .u8 (j : Int)) : (execOp ρ o).run Tryd.prog w = .ok (.value (.int .i64 (j : Int))) w := by
  have hw : IntKind.i64.wrap (j : Int) = (j : Int) := by rw [IntKind.wrap_i64]; omega
  unfold execOp
  simp only [ho, hx]
  simp [go_sem, hw]
end
end Go.Proofs.YtfnbodpbdfeiiaaDoor
