import Derived.Test.YtbdbpmeaiiodgaaDoorHs
import Derived.Stop.BytesEq
import Derived.ChangeKeysEq
namespace Go.Proofs.YtbdbpmeaiiodgaaDoor
open Go.RowKit Go.Shelf TextNum
theorem fieldsH : (Tryd.prog.fieldsOf 54).toList = [{ name := "Origin", type := 9, offset := 0, embedded := false, tag := "", pkgPath := "", byteOffset := 0 }, { name := "Size", type := 2, offset := 1, embedded := false, tag := "", pkgPath := "", byteOffset := 16 }, { name := "Root", type := 52, offset := 2, embedded := false, tag := "", pkgPath := "", byteOffset := 24 }] := by kernel_rfl
theorem part_o (o : ByteArray) (n : Int) (r : List UInt8) (w : World) : (part 9 (headC o n r).toArray 0).run Tryd.prog w = .ok (.string o) w :=
  run_part_plain (w := w) (by kernel_rfl) rfl
theorem part_n (o : ByteArray) (n : Int) (r : List UInt8) (w : World) : (part 2 (headC o n r).toArray 1).run Tryd.prog w = .ok (.int .i64 n) w :=
  run_part_plain (w := w) (by kernel_rfl) rfl
theorem part_r (o : ByteArray) (n : Int) (r : List UInt8) (hr : r.length = 32) (w : World) : (part 52 (headC o n r).toArray 2).run Tryd.prog w = .ok (.agg (cb r).toArray) w := by
  have hz : (sizeOf 52).run Tryd.prog w = .ok 32 w := Tryd.sizeOf52 w
  have ha : (isAgg 52).run Tryd.prog w = .ok true w := Tryd.isAgg52 w
  have he : (headC o n r).toArray.extract 2 (2 + 32) = (cb r).toArray := by
    apply Array.toList_inj.1
    rw [Array.toList_extract]
    simp [headC, List.extract]
    rw [List.take_of_length_le (by rw [cb_length, hr]; exact Nat.le_refl _)]
  simp only [part, Sem.run_bind, ha, Result.andThen_ok, if_true, hz, Sem.run_pure, he]
theorem equalR (d : Nat) (r q : List UInt8) (hr : r.length = 32) (hq : q.length = 32) (w : World) : (Op.equalIn (d + 2) 52 (.agg (cb r).toArray) (.agg (cb q).toArray)).run Tryd.prog w = .ok (r == q) w :=
  run_equalIn_bytes w d 52 5 32 Tryd.underlying52 Tryd.underlying5 (fun w => Tryd.sizeOf5 w) r q hr hq
theorem equalH (d : Nat) (o o' : ByteArray) (n n' : Int) (r r' : List UInt8) (hr : r.length = 32) (hr' : r'.length = 32) (w : World) : (Op.equalIn (d + 3) 54 (headV o n r) (headV o' n' r')).run Tryd.prog w = .ok (o.toList == o'.toList && (n == n' && (r == r' && true))) w := by
  unfold headV
  rw [run_equalIn_struct w (d + 2) 54 _ _ (by kernel_rfl) (by kernel_rfl), fieldsH]
  have h1 := equalR d r r' hr hr' w
  simp only [Op.eqFields, Sem.run_bind, Sem.run_ite, part_o, part_n, part_r _ _ _ hr, part_r _ _ _ hr', Result.andThen_ok, h1, run_equalIn_string w _ 9 _ _ Tryd.underlying9, run_equalIn_int w _ 2 .i64 .i64 _ _ Tryd.underlying2]
  cases o.toList == o'.toList <;> cases n == n' <;> cases r == r' <;> simp
theorem exec_neqH {op : Oper} {ρ : Operand → Value} {x y : Operand} {t : TypeId} (ho : op.op = .binOp .neq 54 x y t) (o : ByteArray) (n : Int) (r : List UInt8) (hx : ρ x = headV o n r) (hy : ρ y = headV o n r) (hr : r.length = 32) (w : World) : (execOp ρ op).run Tryd.prog w = .ok (.value (.bool false)) w := by
  have hq := equalH 9997 o o n n r r hr hr w
  unfold headV at *
  unfold execOp
  simp only [ho, hx, hy, Sem.run_bind, run_eqGuard_agg (P := Tryd.prog) (w := w) .neq 54 x y _ _ Tryd.eqGuardType54, run_neq_struct, hq, Result.andThen_ok, Sem.run_pure]
  simp
theorem exec_eqlH {op : Oper} {ρ : Operand → Value} {x y : Operand} {t : TypeId} (ho : op.op = .binOp .eql 54 x y t) (o : ByteArray) (n : Int) (r : List UInt8) (hx : ρ x = headV o n r) (hy : ρ y = headV o n r) (hr : r.length = 32) (w : World) : (execOp ρ op).run Tryd.prog w = .ok (.value (.bool true)) w := by
  have hq := equalH 9997 o o n n r r hr hr w
  unfold headV at *
  unfold execOp
  simp only [ho, hx, hy, Sem.run_bind, run_eqGuard_agg (P := Tryd.prog) (w := w) .eql 54 x y _ _ Tryd.eqGuardType54, run_eql_struct, hq, Result.andThen_ok, Sem.run_pure]
  simp
end Go.Proofs.YtbdbpmeaiiodgaaDoor
