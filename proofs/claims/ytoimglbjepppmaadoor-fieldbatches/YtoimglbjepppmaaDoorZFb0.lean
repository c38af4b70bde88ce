import Derived.Test.YtoimglbjepppmaaDoorMj
import Derived.Laws.MakeOwn
namespace FieldNum
/-- the product of the first k numbers that are not 0 -/
def pre (f : Nat → Nat) : Nat → Nat
  | 0 => 1
  | k + 1 => if f k % p = 0 then pre f k else pre f k * f k % p
theorem pre_lt (f : Nat → Nat) : ∀ k, pre f k < p
  | 0 => show 1 < p by decide +kernel
  | k + 1 => by
    unfold pre
    split
    · exact pre_lt f k
    · exact Nat.mod_lt _ p_pos
theorem pre_mod (f : Nat → Nat) (k : Nat) : pre f k % p = pre f k := Nat.mod_eq_of_lt (pre_lt f k)
theorem pre_zero {f : Nat → Nat} {k : Nat} (h : f k % p = 0) : pre f (k + 1) = pre f k := if_pos h
theorem pre_next {f : Nat → Nat} {k : Nat} (h : ¬ f k % p = 0) : pre f (k + 1) = pre f k * f k % p := if_neg h
theorem pre_ne (f : Nat → Nat) : ∀ k, pre f k % p ≠ 0
  | 0 => show 1 % p ≠ 0 by decide +kernel
  | k + 1 => by
    unfold pre
    split
    · exact pre_ne f k
    · rename_i h
      rw [mm]
      exact mul_ne (pre_ne f k) h
theorem zpow {x n q : Nat} (h : x % q = 0) (hn : 0 < n) : x ^ n % q = 0 := by rw [Nat.pow_mod, h, Nat.zero_pow hn, Nat.zero_mod]
theorem inv_0 {x : Nat} (h : x % p = 0) : inv x = 0 := zpow h (by decide +kernel)
theorem pre_this {f : Nat → Nat} {k r a : Nat} (h : ¬ f k % p = 0) (hr : r % p = inv (pre f (k + 1))) (ha : a % p = pre f k) : r * a % p = inv (f k) := by
  have hx := mul_inv (mul_ne (pre_ne f k) h)
  refine inv_uniq (Nat.mod_lt _ p_pos) ?_
  have e1 : r % p = inv (pre f k * f k) % p := by rw [hr, pre_next h, inv_mod]; exact (Nat.mod_eq_of_lt (inv_lt _)).symm
  have e2 : r * a % p = inv (pre f k * f k) * pre f k % p := mcong e1 (ha.trans (pre_mod f k).symm)
  rw [Nat.mul_mod, mm, ← Nat.mul_mod, Nat.mul_mod, e2, ← Nat.mul_mod]
  rw [show f k * (inv (pre f k * f k) * pre f k) = pre f k * f k * inv (pre f k * f k) by grind]
  exact hx
theorem pre_rest {f : Nat → Nat} {k r : Nat} (h : ¬ f k % p = 0) (hr : r % p = inv (pre f (k + 1))) : r * f k % p = inv (pre f k) := by
  have hx := mul_inv (mul_ne (pre_ne f k) h)
  refine inv_uniq (Nat.mod_lt _ p_pos) ?_
  have e1 : r % p = inv (pre f k * f k) % p := by rw [hr, pre_next h, inv_mod]; exact (Nat.mod_eq_of_lt (inv_lt _)).symm
  have e2 : r * f k % p = inv (pre f k * f k) * f k % p := mcong e1 rfl
  rw [Nat.mul_mod, mm, ← Nat.mul_mod, Nat.mul_mod, e2, ← Nat.mul_mod]
  rw [show pre f k * (inv (pre f k * f k) * f k) = pre f k * f k * inv (pre f k * f k) by grind]
  exact hx
end FieldNum
namespace Go.Proofs.YtoimglbjepppmaaDoor
open Go.RowKit Go.Shelf FieldNum

set_option maxRecDepth 100000 in
theorem infoM : (Tryd.prog.info? 68).map (fun i => (i.zero, i.size, i.bytes)) = some (some (.agg (nl 0).toArray), 4, 32) := by kernel_rfl
set_option maxRecDepth 100000 in
theorem infoB : (Tryd.prog.info? 23).map (fun i => (i.zero, i.size, i.bytes)) = some (some (bv 0), 32, 32) := by kernel_rfl
theorem mk_num (n : Nat) (hn : n ≤ 256) (w : World) : (Instr.makeSlice 65 (.int .i64 (n : Int)) (.int .i64 (n : Int))).run Tryd.prog w = .ok (.slice (some ⟨w.heap.size, 0, none⟩) n n) (w.alloc (.cells (madeCells (nl 0).toArray (n * 4)) 68)) := by
  obtain ⟨i, hi, hzz⟩ := Option.map_eq_some_iff.1 infoM
  simp only [Prod.mk.injEq] at hzz
  obtain ⟨hz, hs, hb⟩ := hzz
  have := run_make (P := Tryd.prog) w 65 68 i _ Tryd.underlying65 hi hz .i64 .i64 n n (by omega) (by omega) (by rw [hb]; omega) (by omega)
  rw [hs] at this
  simpa [Value.cells] using this
theorem mk_b32 (n : Nat) (hn : n ≤ 256) (w : World) : (Instr.makeSlice 22 (.int .i64 (n : Int)) (.int .i64 (n : Int))).run Tryd.prog w = .ok (.slice (some ⟨w.heap.size, 0, none⟩) n n) (w.alloc (.cells (madeCells (bl 0).toArray (n * 32)) 23)) := by
  obtain ⟨i, hi, hzz⟩ := Option.map_eq_some_iff.1 infoB
  simp only [Prod.mk.injEq] at hzz
  obtain ⟨hz, hs, hb⟩ := hzz
  have := run_make (P := Tryd.prog) w 22 23 i _ Tryd.underlying22 hi hz .i64 .i64 n n (by omega) (by omega) (by rw [hb]; omega) (by omega)
  rw [hs] at this
  simpa [Value.cells, bv] using this
theorem bl0_get (k : Nat) (hk : k < 32) : (bl 0)[k]? = some (.int .u8 0) := by
  rw [bl_get 0 k hk]; simp
theorem made_b32 {w : World} {n i : Nat} (hi : i < n) : (w.alloc (.cells (madeCells (bl 0).toArray (n * 32)) 23)).rangeAt w.heap.size (32 * i) (bl 0) := by
  intro j v hv
  have hj : j < 32 := by have := lt_of_get hv; rwa [bl_length] at this
  rw [bl0_get j hj] at hv
  injection hv with hv
  subst hv
  have hlt : 32 * i + j < n * 32 := by omega
  simp only [World.cell?, World.alloc, madeCells]
  simp [hlt, bl_length]
  rw [bl0_get (j % 32) (Nat.mod_lt _ (by decide))]; rfl
section
variable {o : Oper} {ρ : Operand → Value} {x y : Operand} {w : World}
theorem exec_idxSB {b off n c : Nat} (i : Nat) (hi : i < n) (ho : o.op = .indexAddr 22 x y) (hx : ρ x = .slice (some ⟨b, off, none⟩) n c) (hy : ρ y = .int .i64 (i : Int)) : (execOp ρ o).run Tryd.prog w = .ok (.value (.pointer (some ⟨b, off + 32 * i, none⟩))) w := by
  unfold execOp
  simp only [ho, hx, hy]
  go_simp
theorem exec_idxSN {b off n c : Nat} (i : Nat) (hi : i < n) (ho : o.op = .indexAddr 65 x y) (hx : ρ x = .slice (some ⟨b, off, none⟩) n c) (hy : ρ y = .int .i64 (i : Int)) : (execOp ρ o).run Tryd.prog w = .ok (.value (.pointer (some ⟨b, off + 4 * i, none⟩))) w := by
  unfold execOp
  simp only [ho, hx, hy]
  go_simp
end
end Go.Proofs.YtoimglbjepppmaaDoor
