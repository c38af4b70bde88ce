import Derived.Test.YteijccjdejjbjaaDoorRe
import Derived.ChangeKeysEq
namespace Go.Proofs.YteijccjdejjbjaaDoor
open Go.RowKit Go.Shelf ScalarNum

theorem cells8 : Tryd.prog.cellsOf 5 = 1 := by kernel_rfl
theorem cells64 : Tryd.prog.cellsOf 60 = 1 := by kernel_rfl

theorem eqItems_ints (d : Nat) (e : TypeId) (k k' : IntKind) (hu : Tryd.prog.underlying e = some (.int k')) (hp : ∀ (xs : Array Value) (i : Nat) (v : Value) (w : World), xs[i]? = some v → (part e xs (i * 1)).run Tryd.prog w = .ok v w)
    (f g : Nat → Int) (xs ys : Array Value) (w : World) : ∀ (is : List Nat), (∀ i ∈ is, xs[i]? = some (.int k (f i))) → (∀ i ∈ is, ys[i]? = some (.int k (g i))) →
    (Op.eqItems (d + 1) e 1 xs ys is).run Tryd.prog w = .ok (decide (∀ i ∈ is, f i = g i)) w
  | [], _, _ => by simp [Op.eqItems]
  | i :: is, hx, hy => by
    have ih := eqItems_ints d e k k' hu hp f g xs ys w is (fun j hj => hx j (by simp [hj])) (fun j hj => hy j (by simp [hj]))
    have p1 := hp xs i _ w (hx i (by simp))
    have p2 := hp ys i _ w (hy i (by simp))
    have p3 := run_equalIn_int (P := Tryd.prog) (w := w) d e k k' (f i) (g i) hu
    simp only [Op.eqItems, Sem.run_bind, p1, p2, p3, Result.andThen_ok]
    by_cases h : f i = g i
    · simp [h, ih]
    · simp [h]

theorem ds_inj {b n x y : Nat} (h : ∀ i, i < n → dg b x i = dg b y i) : x % b ^ n = y % b ^ n := by
  induction n with
  | zero => simp [Nat.mod_one]
  | succ k ih => rw [mod_succ, mod_succ, ih (fun i hi => h i (by omega)), h k (by omega)]
theorem w4_iff {x y : Nat} (hx : x < M) (hy : y < M) : (∀ i ∈ List.range 4, ((dg B x i : Nat) : Int) = ((dg B y i : Nat) : Int)) ↔ x = y := by
  constructor
  · intro h
    have := ds_inj (b := B) (n := 4) (x := x) (y := y) (fun i hi => by have := h i (by simp [hi]); omega)
    rwa [B4, Nat.mod_eq_of_lt hx, Nat.mod_eq_of_lt hy] at this
  · rintro rfl i _; rfl
theorem y32_iff {x y : Nat} (hx : x < M) (hy : y < M) : (∀ i ∈ List.range 32, ((dg 256 x i : Nat) : Int) = ((dg 256 y i : Nat) : Int)) ↔ x = y := by
  constructor
  · intro h
    have := ds_inj (b := 256) (n := 32) (x := x) (y := y) (fun i hi => by have := h i (by simp [hi]); omega)
    rwa [show (256 : Nat) ^ 32 = M from by decide, Nat.mod_eq_of_lt hx, Nat.mod_eq_of_lt hy] at this
  · rintro rfl i _; rfl

theorem equal32 (d : Nat) (m n : Nat) (hm : m < M) (hn : n < M) (w : World) : (Op.equalIn (d + 2) 23 (yv 32 m) (yv 32 n)).run Tryd.prog w = .ok (decide (m = n)) w := by
  obtain ⟨i, hi⟩ : ∃ i, Tryd.prog.info? 5 = some i := Option.isSome_iff_exists.1 (by kernel_rfl)
  unfold yv
  rw [run_equalIn_array (w := w) (d + 1) _ _ Tryd.underlying23 hi, cells8]
  rw [eqItems_ints d 5 .u8 .u8 Tryd.underlying5 (fun xs j v w hv => by rw [Nat.mul_one]; exact run_part_plain (w := w) (by kernel_rfl) hv) (fun j => ((dg 256 m j : Nat) : Int)) (fun j => ((dg 256 n j : Nat) : Int)) _ _ w (List.range 32)
    (fun j hj => by rw [List.getElem?_toArray]; exact yl_get 32 m j (by simpa using hj)) (fun j hj => by rw [List.getElem?_toArray]; exact yl_get 32 n j (by simpa using hj))]
  simp only [y32_iff hm hn]
theorem exec_eql32 {o : Oper} {ρ : Operand → Value} {x y : Operand} {t : TypeId} (ho : o.op = .binOp .eql 23 x y t) (m n : Nat) (hx : ρ x = yv 32 m) (hy : ρ y = yv 32 n) (hm : m < M) (hn : n < M) (w : World) :
    (execOp ρ o).run Tryd.prog w = .ok (.value (.bool (decide (m = n)))) w := by
  have he := equal32 9998 m n hm hn w
  unfold yv at *
  unfold execOp
  simp only [ho, hx, hy, Sem.run_bind, run_eqGuard_agg (P := Tryd.prog) (w := w) .eql 23 x y _ _ Tryd.eqGuardType23, run_eql_struct, he, Result.andThen_ok, Sem.run_pure]
theorem exec_neq32 {o : Oper} {ρ : Operand → Value} {x y : Operand} {t : TypeId} (ho : o.op = .binOp .neq 23 x y t) (m n : Nat) (hx : ρ x = yv 32 m) (hy : ρ y = yv 32 n) (hm : m < M) (hn : n < M) (w : World) :
    (execOp ρ o).run Tryd.prog w = .ok (.value (.bool (!decide (m = n)))) w := by
  have he := equal32 9998 m n hm hn w
  unfold yv at *
  unfold execOp
  simp only [ho, hx, hy, Sem.run_bind, run_eqGuard_agg (P := Tryd.prog) (w := w) .neq 23 x y _ _ Tryd.eqGuardType23, run_neq_struct, he, Result.andThen_ok, Sem.run_pure]

theorem equalN (d : Nat) (m n : Nat) (hm : m < M) (hn : n < M) (w : World) : (Op.equalIn (d + 2) 62 (wv 4 m) (wv 4 n)).run Tryd.prog w = .ok (decide (m = n)) w := by
  obtain ⟨i, hi⟩ : ∃ i, Tryd.prog.info? 60 = some i := Option.isSome_iff_exists.1 (by kernel_rfl)
  unfold wv
  rw [run_equalIn_array (w := w) (d + 1) _ _ Tryd.underlying62 hi, cells64]
  rw [eqItems_ints d 60 .u64 .u64 Tryd.underlying60 (fun xs j v w hv => by rw [Nat.mul_one]; exact run_part_plain (w := w) (by kernel_rfl) hv) (fun j => ((dg B m j : Nat) : Int)) (fun j => ((dg B n j : Nat) : Int)) _ _ w (List.range 4)
    (fun j hj => by rw [List.getElem?_toArray]; exact wl_get 4 m j (by simpa using hj)) (fun j hj => by rw [List.getElem?_toArray]; exact wl_get 4 n j (by simpa using hj))]
  simp only [w4_iff hm hn]
theorem exec_eqlN {o : Oper} {ρ : Operand → Value} {x y : Operand} {t : TypeId} (ho : o.op = .binOp .eql 62 x y t) (m n : Nat) (hx : ρ x = wv 4 m) (hy : ρ y = wv 4 n) (hm : m < M) (hn : n < M) (w : World) :
    (execOp ρ o).run Tryd.prog w = .ok (.value (.bool (decide (m = n)))) w := by
  have he := equalN 9998 m n hm hn w
  unfold wv at *
  unfold execOp
  simp only [ho, hx, hy, Sem.run_bind, run_eqGuard_agg (P := Tryd.prog) (w := w) .eql 62 x y _ _ Tryd.eqGuardType62, run_eql_struct, he, Result.andThen_ok, Sem.run_pure]
theorem exec_neqN {o : Oper} {ρ : Operand → Value} {x y : Operand} {t : TypeId} (ho : o.op = .binOp .neq 62 x y t) (m n : Nat) (hx : ρ x = wv 4 m) (hy : ρ y = wv 4 n) (hm : m < M) (hn : n < M) (w : World) :
    (execOp ρ o).run Tryd.prog w = .ok (.value (.bool (!decide (m = n)))) w := by
  have he := equalN 9998 m n hm hn w
  unfold wv at *
  unfold execOp
  simp only [ho, hx, hy, Sem.run_bind, run_eqGuard_agg (P := Tryd.prog) (w := w) .neq 62 x y _ _ Tryd.eqGuardType62, run_neq_struct, he, Result.andThen_ok, Sem.run_pure]

theorem wpList_val {ops : Array Oper} {Q : Exit → Act → World → Prop} {rest : List Oper} {o : Oper} {a : Act} {w : World} (v : Value) (hgd : o.guard = none) (hy : (execOp a.eval o).run Tryd.prog w = .ok (.value v) w)
    (h : wpList Tryd.prog ops Q rest (a.put o.dst v) w) : wpList Tryd.prog ops Q (o :: rest) a w :=
  wpList_plain hgd fun _ hK => by
    unfold Oper.wp
    rw [hy]
    exact hK _ _ h
end Go.Proofs.YteijccjdejjbjaaDoor
