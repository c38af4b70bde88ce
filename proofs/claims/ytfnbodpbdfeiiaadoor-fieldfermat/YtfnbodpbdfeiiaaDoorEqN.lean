import Derived.Test.YtfnbodpbdfeiiaaDoorEng2
namespace Go.Proofs.YtfnbodpbdfeiiaaDoor
open Go.RowKit Go.Shelf FieldNum

theorem words_eq_iff {m n : Nat} (hm : m < M) (hn : n < M) : (∀ i ∈ List.range 4, ((m / 256 ^ (8 * i) % 18446744073709551616 : Nat) : Int) = ((n / 256 ^ (8 * i) % 18446744073709551616 : Nat) : Int)) ↔ m = n := by
  constructor
  · intro h
    have h0 := h 0 (by simp)
    have h1 := h 1 (by simp)
    have h2 := h 2 (by simp)
    have h3 := h 3 (by simp)
    simp only [Nat.mul_zero, Nat.mul_one, Nat.reduceMul, Nat.reducePow] at h0 h1 h2 h3
    unfold M at *
    omega
  · rintro rfl i _; rfl

/-- a number's words as cells -/
def nl (n : Nat) : List Value := (List.range 4).map fun i => .int .u64 ((n / 256 ^ (8 * i) % 18446744073709551616 : Nat) : Int)
theorem nl_get (n i : Nat) (h : i < 4) : (nl n)[i]? = some (.int .u64 ((n / 256 ^ (8 * i) % 18446744073709551616 : Nat) : Int)) := by simp [nl, h]
theorem nl_length (n : Nat) : (nl n).length = 4 := by simp [nl]
theorem numV_nl (n : Nat) : numV n = .agg (nl n).toArray := rfl

theorem equalN (d : Nat) (m n : Nat) (hm : m < M) (hn : n < M) (w : World) : (Op.equalIn (d + 2) 38 (numV m) (numV n)).run Tryd.prog w = .ok (decide (m = n)) w := by
  obtain ⟨i, hi⟩ : ∃ i, Tryd.prog.info? 36 = some i := Option.isSome_iff_exists.1 (by kernel_rfl)
  rw [numV_nl, numV_nl]
  rw [run_equalIn_array (w := w) (d + 1) _ _ Tryd.underlying38 hi, cells64]
  rw [eqItems_ints d 36 .u64 .u64 Tryd.underlying36 (fun xs j v w hv => by rw [Nat.mul_one]; exact run_part_plain (w := w) (by kernel_rfl) hv) (fun j => ((m / 256 ^ (8 * j) % 18446744073709551616 : Nat) : Int)) (fun j => ((n / 256 ^ (8 * j) % 18446744073709551616 : Nat) : Int)) _ _ w (List.range 4)
    (fun j hj => by rw [List.getElem?_toArray]; exact nl_get m j (by simpa using hj)) (fun j hj => by rw [List.getElem?_toArray]; exact nl_get n j (by simpa using hj))]
  simp only [words_eq_iff hm hn]

theorem exec_eqlN {o : Oper} {ρ : Operand → Value} {x y : Operand} {t : TypeId} (ho : o.op = .binOp .eql 38 x y t) (m n : Nat) (hx : ρ x = numV m) (hy : ρ y = numV n) (hm : m < M) (hn : n < M) (w : World) :
    (execOp ρ o).run Tryd.prog w = .ok (.value (.bool (decide (m = n)))) w := by
  have he := equalN 9998 m n hm hn w
  rw [numV_nl, numV_nl] at he
  rw [numV_nl] at hx hy
  unfold execOp
  simp only [ho, hx, hy, Sem.run_bind, run_eqGuard_agg (P := Tryd.prog) (w := w) .eql 38 x y _ _ Tryd.eqGuardType38, run_eql_struct, he, Result.andThen_ok, Sem.run_pure]
end Go.Proofs.YtfnbodpbdfeiiaaDoor
