import Derived.Test.YtfnbodpbdfeiiaaDoorApi2
import Derived.ChangeKeysEq
namespace Go.Proofs.YtfnbodpbdfeiiaaDoor
open Go.RowKit Go.Shelf FieldNum

theorem cells8 : Tryd.prog.cellsOf 5 = 1 := by kernel_rfl
theorem cells64 : Tryd.prog.cellsOf 36 = 1 := by kernel_rfl

theorem eqItems_ints (d : Nat) (e : TypeId) (k k' : IntKind) (hu : Tryd.prog.underlying e = some (.int k')) (hp : ∀ (xs : Array Value) (i : Nat) (v : Value) (w : World), xs[i]? = some v → (part e xs (i * 1)).run Tryd.prog w = .ok v w)
    (f g : Nat → Int) (xs ys : Array Value) (w : World) : ∀ (is : List Nat), (∀ i ∈ is, xs[i]? = some (.int k (f i))) → (∀ i ∈ is, ys[i]? = some (.int k (g i))) →
    (Op.eqItems (d + 1) e 1 xs ys is).run Tryd.prog w = .ok (decide (∀ i ∈ is, f i = g i)) w
  | [], _, _ => by simp [Op.eqItems]
  | i :: is, hx, hy => by
    have ih := eqItems_ints d e k k' hu hp f g xs ys w is (fun j hj => hx j (by simp [hj])) (fun j hj => hy j (by simp [hj]))
    have p1 := hp xs i _ w (hx i (by simp))
    have p2 := hp ys i _ w (hy i (by simp))
    have p3 := run_equalIn_int (P := Tryd.prog) (w := w) d e k k' (f i) (g i) hu
    simp only [Op.eqItems, Sem.run_bind, p1, p2, p3, Result.andThen_ok]
    by_cases h : f i = g i
    · simp [h, ih]
    · simp [h]

theorem digits_eq (b m n : Nat) : ∀ k : Nat, (∀ i, i < k → m / b ^ i % b = n / b ^ i % b) → m % b ^ k = n % b ^ k
  | 0, _ => by simp [Nat.mod_one]
  | k + 1, h => by
    have ih := digits_eq b m n k (fun i hi => h i (by omega))
    have hk := h k (by omega)
    rw [Nat.pow_succ, Nat.mod_mul, Nat.mod_mul, ih, hk]

theorem bytes_eq_iff {m n : Nat} (hm : m < M) (hn : n < M) : (∀ i ∈ List.range 32, ((m / 256 ^ i % 256 : Nat) : Int) = ((n / 256 ^ i % 256 : Nat) : Int)) ↔ m = n := by
  constructor
  · intro h
    have := digits_eq 256 m n 32 (fun i hi => by have := h i (by simp [hi]); omega)
    have e : 256 ^ 32 = M := by decide
    rw [e, Nat.mod_eq_of_lt hm, Nat.mod_eq_of_lt hn] at this
    exact this
  · rintro rfl i _; rfl

theorem equal32 (d : Nat) (m n : Nat) (hm : m < M) (hn : n < M) (w : World) : (Op.equalIn (d + 2) 22 (bv m) (bv n)).run Tryd.prog w = .ok (decide (m = n)) w := by
  obtain ⟨i, hi⟩ : ∃ i, Tryd.prog.info? 5 = some i := Option.isSome_iff_exists.1 (by kernel_rfl)
  unfold bv
  rw [run_equalIn_array (w := w) (d + 1) _ _ Tryd.underlying22 hi, cells8]
  rw [eqItems_ints d 5 .u8 .u8 Tryd.underlying5 (fun xs j v w hv => by rw [Nat.mul_one]; exact run_part_plain (w := w) (by kernel_rfl) hv) (fun j => ((m / 256 ^ j % 256 : Nat) : Int)) (fun j => ((n / 256 ^ j % 256 : Nat) : Int)) _ _ w (List.range 32)
    (fun j hj => by rw [List.getElem?_toArray]; exact bl_get m j (by simpa using hj)) (fun j hj => by rw [List.getElem?_toArray]; exact bl_get n j (by simpa using hj))]
  simp only [bytes_eq_iff hm hn]

theorem exec_neq32 {o : Oper} {ρ : Operand → Value} {x y : Operand} {t : TypeId} (ho : o.op = .binOp .neq 22 x y t) (m n : Nat) (hx : ρ x = bv m) (hy : ρ y = bv n) (hm : m < M) (hn : n < M) (w : World) :
    (execOp ρ o).run Tryd.prog w = .ok (.value (.bool (!decide (m = n)))) w := by
  have he := equal32 9998 m n hm hn w
  unfold bv at *
  unfold execOp
  simp only [ho, hx, hy, Sem.run_bind, run_eqGuard_agg (P := Tryd.prog) (w := w) .neq 22 x y _ _ Tryd.eqGuardType22, run_neq_struct, he, Result.andThen_ok, Sem.run_pure]

theorem exec_eql32 {o : Oper} {ρ : Operand → Value} {x y : Operand} {t : TypeId} (ho : o.op = .binOp .eql 22 x y t) (m n : Nat) (hx : ρ x = bv m) (hy : ρ y = bv n) (hm : m < M) (hn : n < M) (w : World) :
    (execOp ρ o).run Tryd.prog w = .ok (.value (.bool (decide (m = n)))) w := by
  have he := equal32 9998 m n hm hn w
  unfold bv at *
  unfold execOp
  simp only [ho, hx, hy, Sem.run_bind, run_eqGuard_agg (P := Tryd.prog) (w := w) .eql 22 x y _ _ Tryd.eqGuardType22, run_eql_struct, he, Result.andThen_ok, Sem.run_pure]
end Go.Proofs.YtfnbodpbdfeiiaaDoor
