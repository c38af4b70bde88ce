import Derived.Test.YtoonlnncboikfaaPlus
namespace Go.Proofs.Ytoonlnncboikfaa
open Go.RowKit Go.Shelf FieldNum

/-- the plain sum of 256 bits -/
def psum (x y : Nat) : Nat := (x + y) % M
theorem psum_lt (x y : Nat) : psum x y < M := Nat.mod_lt _ (by decide)
theorem lawplus_f (x y : Nat) (w : World) : Calls Try.prog 13 #[bv x, bv y] w fun e w' => (∃ c : Int, e = .returned (.tuple #[bv (psum x y), .int .i64 c])) ∧ Grown w w' := lawplus_any x y w

theorem less_is (x y : Nat) (hx : x < M) (hy : y < M) (b : Bool) (h : decide (x < y) = b) (w : World) : Calls Try.prog 11 #[bv x, bv y] w fun e w' => e = .returned (.bool b) ∧ Grown w w' := by
  have := less_any x y hx hy w
  rwa [h] at this
theorem canon_is (x : Nat) (hx : x < M) (b : Bool) (h : decide (x < p) = b) (w : World) : Calls Try.prog 12 #[bv x] w fun e w' => e = .returned (.bool b) ∧ Grown w w' := by
  have := Canonical_any x hx w
  rwa [h] at this
theorem odd_is (x : Nat) (hx : x < M) (b : Bool) (h : decide (x % p % 2 = 1) = b) (w : World) : Calls Try.prog 14 #[bv x] w fun e w' => e = .returned (.bool b) ∧ Grown w w' := by
  have := Odd_any x hx w
  rwa [h] at this
theorem equal_is (x y : Nat) (hx : x < M) (hy : y < M) (b : Bool) (h : decide (x % p = y % p) = b) (w : World) : Calls Try.prog 15 #[bv x, bv y] w fun e w' => e = .returned (.bool b) ∧ Grown w w' := by
  have := Equal_any x y hx hy w
  rwa [h] at this

theorem wpList_skipU {ops : Array Oper} {Q : Exit → Act → World → Prop} {rest : List Oper} {o : Oper} {a : Act} {w : World} (hw : Region.wanted o (yielded ops a.tmps) = false)
    (h : wpList Try.prog ops Q rest (a.put o.dst undef) w) : wpList Try.prog ops Q (o :: rest) a w :=
  wpList_step fun _ hK => by
    rw [if_neg (by rw [hw]; decide)]
    exact hK _ _ h

theorem wpList_valG {ops : Array Oper} {Q : Exit → Act → World → Prop} {rest : List Oper} {o : Oper} {a : Act} {w : World} (v : Value) (hw : Region.wanted o (yielded ops a.tmps) = true) (hy : (execOp a.eval o).run Try.prog w = .ok (.value v) w)
    (h : wpList Try.prog ops Q rest (a.put o.dst v) w) : wpList Try.prog ops Q (o :: rest) a w :=
  wpList_step fun _ hK => by
    rw [if_pos hw]
    unfold Oper.wp
    rw [hy]
    exact hK _ _ h

theorem wpList_load32G {ops : Array Oper} {rest : List Oper} {op : Oper} {a : Act} {w : World} {Q : Exit → Act → World → Prop} (hw : Region.wanted op (yielded ops a.tmps) = true) (x : Operand) (ho : op.op = .load 22 x)
    (b : Nat) (hx : a.eval x = .pointer (some ⟨b, 0, none⟩)) (n : Nat) (hc : w.rangeAt b 0 (bl n))
    (h : wpList Try.prog ops Q rest (a.put op.dst (bv n)) w) : wpList Try.prog ops Q (op :: rest) a w :=
  wpList_step fun _ hK => by
    rw [if_pos hw]
    exact wp_load_mid 22 x ho b 0 hx (bl n) _ hc Try.underlying22 rfl (by rw [bl_length]; exact info32) (hK _ _ h)

theorem exec_rem8 {o : Oper} {ρ : Operand → Value} {x y : Operand} {t : TypeId} {w : World} (ho : o.op = .binOp .rem 5 x y t) (c : Nat) (hc : c < 256) (hx : ρ x = .int .u8 (c : Int)) (hy : ρ y = .int .u8 2) : (execOp ρ o).run Try.prog w = .ok (.value (.int .u8 ((c % 2 : Nat) : Int))) w := by
  have h : (c : Int).tmod 2 = ((c % 2 : Nat) : Int) := by rw [Int.tmod_eq_emod_of_nonneg (by omega)]; omega
  have hw : IntKind.u8.wrap ((c % 2 : Nat) : Int) = ((c % 2 : Nat) : Int) := by rw [IntKind.wrap_u8]; omega
  unfold execOp
  simp only [ho, hx, hy]
  simp [go_sem, h]
theorem exec_eql8 {o : Oper} {ρ : Operand → Value} {x y : Operand} {t : TypeId} {w : World} (ho : o.op = .binOp .eql 5 x y t) (c : Nat) (hx : ρ x = .int .u8 (c : Int)) (hy : ρ y = .int .u8 1) (b : Bool) (hb : decide (c = 1) = b) : (execOp ρ o).run Try.prog w = .ok (.value (.bool b)) w := by
  subst hb
  unfold execOp
  simp only [ho, hx, hy]
  simp [go_sem]
  by_cases h : c = 1
  · subst h; rfl
  · have : ((c : Int) == 1) = false := by simp; omega
    rw [this]; simp [h]
end Go.Proofs.Ytoonlnncboikfaa
