import Derived.Test.YtngoedhddjakhaaCw
import Derived.Laws.StructEq
import Derived.ChangeKeysEq
namespace Go.Proofs.Ytngoedhddjakhaa
open Go.RowKit TileNum
theorem tt_eq (a b : TT) : decide (a = b) = ((a.1 : Int) == (b.1 : Int) && ((a.2.1 : Int) == (b.2.1 : Int) && (a.2.2 : Int) == (b.2.2 : Int))) := by
  obtain ⟨a1, a2, a3⟩ := a
  obtain ⟨b1, b2, b3⟩ := b
  rw [Bool.eq_iff_iff]
  simp only [decide_eq_true_eq, Prod.mk.injEq, Bool.and_eq_true, beq_iff_eq]
  omega
theorem eqTl (h : Nat) (a b : TT) (w : World) : (Op.equalIn 10000 39 (tv h a) (tv h b)).run Try.prog w = .ok (decide (a = b)) w := by
  have u3 := Try.underlying3
  have a3 := Try.isAgg3
  have z3 := Try.sizeOf3
  have u2 := Try.underlying2
  have a2 := Try.isAgg2
  have z2 := Try.sizeOf2
  have u4 := Try.underlying4
  have a4 := Try.isAgg4
  have z4 := Try.sizeOf4
  have hS : Try.prog.underlying 39 = some (.struct (Try.prog.fieldsOf 39)) := by kernel_rfl
  have hp : Try.prog.stoodInHeld 39 = false := by kernel_rfl
  rw [tt_eq]
  simp only [tv, tc]
  rw [show (10000 : Nat) = 9999 + 1 from rfl, run_equalIn_agg w 9999 39 _ _ hS hp]
  simp only [Program.fieldsOf, Try.underlying39]
  go_simp
  generalize (a.1 : Int) = x1
  generalize (a.2.1 : Int) = x2
  generalize (a.2.2 : Int) = x3
  generalize (b.1 : Int) = y1
  generalize (b.2.1 : Int) = y2
  generalize (b.2.2 : Int) = y3
  by_cases h1 : x1 = y1
  · by_cases h2 : x2 = y2
    · by_cases h3 : x3 = y3
      · subst h1 h2 h3; simp
      · simp [h1, h2, h3]
    · simp [h1, h2]
  · simp [h1]
theorem exec_eqlT {op : Oper} {ρ : Operand → Value} {x y : Operand} {t : TypeId} (ho : op.op = .binOp .eql 39 x y t) (h : Nat) (a b : TT) (hx : ρ x = tv h a) (hy : ρ y = tv h b) (w : World) : (execOp ρ op).run Try.prog w = .ok (.value (.bool (decide (a = b)))) w := by
  have hq := eqTl h a b w
  unfold tv at *
  unfold execOp
  simp only [ho, hx, hy, Sem.run_bind, run_eqGuard_agg (P := Try.prog) (w := w) .eql 39 x y _ _ Try.eqGuardType39, run_eql_struct, hq, Result.andThen_ok, Sem.run_pure]
theorem exec_neqT {op : Oper} {ρ : Operand → Value} {x y : Operand} {t : TypeId} (ho : op.op = .binOp .neq 39 x y t) (h : Nat) (a b : TT) (hx : ρ x = tv h a) (hy : ρ y = tv h b) (w : World) : (execOp ρ op).run Try.prog w = .ok (.value (.bool (!decide (a = b)))) w := by
  have hq := eqTl h a b w
  unfold tv at *
  unfold execOp
  simp only [ho, hx, hy, Sem.run_bind, run_eqGuard_agg (P := Try.prog) (w := w) .neq 39 x y _ _ Try.eqGuardType39, run_neq_struct, hq, Result.andThen_ok, Sem.run_pure]
/-- one operation that reads, in a region that draws -/
theorem quiet_op {C : World → Prop} {a : Act} {o : Oper} {K : Act → Prop} (v : Value) (hs : ∀ w, C w → (execOp a.eval o).run Try.prog w = .ok (.value v) w) (hk : K (a.put o.dst v)) : o.quiet Try.prog a C K :=
  ⟨_, fun w hw => by
    unfold Oper.quietAt
    rw [hs w hw]
    exact ⟨rfl, rfl⟩, hk⟩
end Go.Proofs.Ytngoedhddjakhaa
