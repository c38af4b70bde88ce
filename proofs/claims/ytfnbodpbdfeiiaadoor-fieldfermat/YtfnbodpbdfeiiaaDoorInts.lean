import Derived.Test.YtfnbodpbdfeiiaaDoorEng3
namespace Go.Proofs.YtfnbodpbdfeiiaaDoor
open Go.RowKit Go.Shelf FieldNum

section
variable {o : Oper} {ρ : Operand → Value} {x y : Operand} {t : TypeId} {w : World}

theorem exec_eqlI (ho : o.op = .binOp .eql 3 x y t) (m n : Int) (hx : ρ x = .int .i64 m) (hy : ρ y = .int .i64 n) (b : Bool) (hb : decide (m = n) = b) : (execOp ρ o).run Tryd.prog w = .ok (.value (.bool b)) w := by
  subst hb
  unfold execOp
  simp only [ho, hx, hy]
  simp [go_sem]
  by_cases h : m = n <;> simp [h]
theorem exec_neqI (ho : o.op = .binOp .neq 3 x y t) (m n : Int) (hx : ρ x = .int .i64 m) (hy : ρ y = .int .i64 n) (b : Bool) (hb : (!decide (m = n)) = b) : (execOp ρ o).run Tryd.prog w = .ok (.value (.bool b)) w := by
  subst hb
  unfold execOp
  simp only [ho, hx, hy]
  simp [go_sem]
  by_cases h : m = n <;> simp [h]
theorem exec_lssI (ho : o.op = .binOp .lss 3 x y t) (m n : Int) (hx : ρ x = .int .i64 m) (hy : ρ y = .int .i64 n) (b : Bool) (hb : decide (m < n) = b) : (execOp ρ o).run Tryd.prog w = .ok (.value (.bool b)) w := by
  subst hb
  unfold execOp
  simp only [ho, hx, hy]
  simp [go_sem]
theorem exec_gtrI (ho : o.op = .binOp .gtr 3 x y t) (m n : Int) (hx : ρ x = .int .i64 m) (hy : ρ y = .int .i64 n) (b : Bool) (hb : decide (n < m) = b) : (execOp ρ o).run Tryd.prog w = .ok (.value (.bool b)) w := by
  subst hb
  unfold execOp
  simp only [ho, hx, hy]
  simp [go_sem]
theorem exec_mulI (ho : o.op = .binOp .mul 3 x y t) (m n r : Int) (hx : ρ x = .int .i64 m) (hy : ρ y = .int .i64 n) (hr : IntKind.i64.wrap (m * n) = r) : (execOp ρ o).run Tryd.prog w = .ok (.value (.int .i64 r)) w := by
  subst hr
  unfold execOp
  simp only [ho, hx, hy]
  simp [go_sem]
end

theorem wpList_valG {ops : Array Oper} {Q : Exit → Act → World → Prop} {rest : List Oper} {o : Oper} {a : Act} {w : World} (v : Value) (hw : Region.wanted o (yielded ops a.tmps) = true) (hy : (execOp a.eval o).run Tryd.prog w = .ok (.value v) w)
    (h : wpList Tryd.prog ops Q rest (a.put o.dst v) w) : wpList Tryd.prog ops Q (o :: rest) a w :=
  wpList_step fun _ hK => by
    rw [if_pos hw]
    unfold Oper.wp
    rw [hy]
    exact hK _ _ h

theorem wpList_load32G {ops : Array Oper} {rest : List Oper} {op : Oper} {a : Act} {w : World} {Q : Exit → Act → World → Prop} (hw : Region.wanted op (yielded ops a.tmps) = true) (x : Operand) (ho : op.op = .load 22 x)
    (b : Nat) (hx : a.eval x = .pointer (some ⟨b, 0, none⟩)) (n : Nat) (hc : w.rangeAt b 0 (bl n))
    (h : wpList Tryd.prog ops Q rest (a.put op.dst (bv n)) w) : wpList Tryd.prog ops Q (op :: rest) a w :=
  wpList_step fun _ hK => by
    rw [if_pos hw]
    exact wp_load_mid 22 x ho b 0 hx (bl n) _ hc Tryd.underlying22 rfl (by rw [bl_length]; exact info32) (hK _ _ h)
end Go.Proofs.YtfnbodpbdfeiiaaDoor
