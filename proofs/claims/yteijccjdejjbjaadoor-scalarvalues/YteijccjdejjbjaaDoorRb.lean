import Derived.Test.YteijccjdejjbjaaDoorDg
namespace ScalarNum

theorem accb (b v k t : Nat) : st b v k ((dg b v k + t) % b) + (dg b v k + t) / b * b ^ (k + 1) = v + t * b ^ k := by
  have h := st_eq b v k ((dg b v k + t) % b)
  have h2 := Nat.div_add_mod (dg b v k + t) b
  generalize st b v k ((dg b v k + t) % b) = v' at *
  generalize dg b v k = w at *
  generalize (w + t) / b = q at *
  generalize (w + t) % b = r at *
  rw [Nat.pow_succ]
  generalize b ^ k = P at *
  have e : (w + t) * P = q * (P * b) + r * P := by
    rw [← h2, Nat.add_mul]
    congr 1
    rw [Nat.mul_comm b q, Nat.mul_assoc, Nat.mul_comm b P]
  rw [Nat.add_mul] at e
  omega
theorem decb (b v k t d c : Nat) (hd : d + t = dg b v k + c * b) : st b v k d + t * b ^ k = v + c * b ^ (k + 1) := by
  have h := st_eq b v k d
  generalize st b v k d = v' at *
  generalize dg b v k = w at *
  rw [Nat.pow_succ]
  generalize b ^ k = P at *
  have e : d * P + t * P = w * P + c * (P * b) := by
    rw [← Nat.add_mul, hd, Nat.add_mul, Nat.mul_assoc, Nat.mul_comm b P]
  omega
theorem div_succb {b v x k : Nat} (h : v / b ^ k = x / b ^ k) : v / b ^ (k + 1) = x / b ^ (k + 1) := by
  rw [Nat.pow_succ, ← Nat.div_div_eq_div_mul, h, Nat.div_div_eq_div_mul]

/-- doubling, digit by digit -/
theorem dbl_step {cur c R bit j : Nat} (h : cur + c * 256 ^ j = R + R % 256 ^ j + bit) (hx : cur / 256 ^ j = R / 256 ^ j) :
    st 256 cur j ((2 * dg 256 cur j + c) % 256) + (2 * dg 256 cur j + c) / 256 * 256 ^ (j + 1) = R + R % 256 ^ (j + 1) + bit ∧
    st 256 cur j ((2 * dg 256 cur j + c) % 256) / 256 ^ (j + 1) = R / 256 ^ (j + 1) := by
  have hw : dg 256 cur j = dg 256 R j := by unfold dg; rw [hx]
  have a := accb 256 cur j (dg 256 cur j + c)
  rw [show dg 256 cur j + (dg 256 cur j + c) = 2 * dg 256 cur j + c by omega] at a
  refine ⟨?_, ?_⟩
  · rw [a, mod_succ, Nat.add_mul, hw]
    omega
  · rw [st_div (by decide) (Nat.mod_lt _ (by decide))]; exact div_succb hx
theorem sub_step256 {cur X Y c j d c' : Nat} (h : cur + Y % 256 ^ j = X + c * 256 ^ j) (hd : d + (dg 256 Y j + c) = dg 256 cur j + c' * 256) :
    st 256 cur j d + Y % 256 ^ (j + 1) = X + c' * 256 ^ (j + 1) := by
  have := decb 256 cur j (dg 256 Y j + c) d c' hd
  rw [mod_succ]
  rw [Nat.add_mul] at this
  omega
theorem bit_byte (v i : Nat) : dg 256 v (i / 8) / 2 ^ (i % 8) % 2 = v / 2 ^ i % 2 := by
  unfold dg
  have hj : i = 8 * (i / 8) + i % 8 := by omega
  have hr : i % 8 < 8 := Nat.mod_lt _ (by decide)
  generalize i / 8 = k at *
  generalize i % 8 = r at *
  subst hj
  rw [show (256 : Nat) ^ k = 2 ^ (8 * k) from by rw [show (256 : Nat) = 2 ^ 8 from by decide, ← Nat.pow_mul], Nat.pow_add, ← Nat.div_div_eq_div_mul]
  generalize v / 2 ^ (8 * k) = y
  have h8 : r = 0 ∨ r = 1 ∨ r = 2 ∨ r = 3 ∨ r = 4 ∨ r = 5 ∨ r = 6 ∨ r = 7 := by omega
  rcases h8 with rfl | rfl | rfl | rfl | rfl | rfl | rfl | rfl <;> simp only [Nat.reducePow, Nat.div_one] <;> omega
theorem rest_step (L v i : Nat) : (2 * (v / 2 ^ (i + 1) % L) + v / 2 ^ i % 2) % L = v / 2 ^ i % L := by
  rw [Nat.add_mod, Nat.mul_mod, Nat.mod_mod, ← Nat.mul_mod, ← Nat.add_mod]
  congr 1
  rw [Nat.pow_succ, ← Nat.div_div_eq_div_mul]
  omega
end ScalarNum
