import Derived.Test.YteijccjdejjbjaaDoorRb
namespace ScalarNum

/-- a column of a product: the first i rows -/
def cs (x y : Nat) : Nat → Nat → Nat
  | 0, _ => 0
  | i + 1, m => cs x y i m + (if i ≤ m then dg 256 x i * dg 256 y (m - i) else 0)
/-- K columns of the first i rows -/
def us (x y i : Nat) : Nat → Nat
  | 0 => 0
  | K + 1 => us x y i K + cs x y i K * 256 ^ K

theorem us_row (x y i : Nat) : ∀ K, us x y (i + 1) K = us x y i K + dg 256 x i * 256 ^ i * (y % 256 ^ (K - i))
  | 0 => by
    simp only [us]
    rw [Nat.zero_sub, Nat.pow_zero, Nat.mod_one, Nat.mul_zero]
  | K + 1 => by
    have ih := us_row x y i K
    simp only [us, cs]
    rw [ih]
    by_cases h : i ≤ K
    · rw [if_pos h]
      have e1 : K + 1 - i = (K - i) + 1 := by omega
      have e2 : 256 ^ K = 256 ^ i * 256 ^ (K - i) := by rw [← Nat.pow_add]; congr 1; omega
      rw [e1, mod_succ 256 y (K - i), Nat.add_mul, Nat.mul_add, e2]
      generalize 256 ^ i = P
      generalize 256 ^ (K - i) = R
      generalize dg 256 x i = a
      generalize dg 256 y (K - i) = b
      generalize y % R = z
      have e3 : a * b * (P * R) = a * P * (b * R) := by
        simp only [Nat.mul_left_comm, Nat.mul_comm]
      rw [e3]
      omega
    · rw [if_neg h, show K + 1 - i = 0 by omega, show K - i = 0 by omega]
      simp only [Nat.pow_zero, Nat.mod_one, Nat.mul_zero, Nat.add_zero]
theorem us_zero (x y : Nat) : ∀ K, us x y 0 K = 0
  | 0 => rfl
  | K + 1 => by simp only [us, cs]; rw [us_zero x y K, Nat.zero_mul]
theorem us_full {x y : Nat} (hy : y < M) : ∀ i, i ≤ 32 → us x y i 64 = x % 256 ^ i * y
  | 0, _ => by rw [us_zero, Nat.pow_zero, Nat.mod_one, Nat.zero_mul]
  | i + 1, h => by
    rw [us_row, us_full hy i (by omega), mod_succ]
    have e : y % 256 ^ (64 - i) = y := Nat.mod_eq_of_lt (Nat.lt_of_lt_of_le hy (by rw [show M = 256 ^ 32 from by decide]; exact Nat.pow_le_pow_right (by decide) (by omega)))
    rw [e, Nat.add_mul]
theorem us_mul {x y : Nat} (hx : x < M) (hy : y < M) : us x y 32 64 = x * y := by
  rw [us_full hy 32 (Nat.le_refl _), show (256 : Nat) ^ 32 = M from by decide, Nat.mod_eq_of_lt hx]
theorem cs_stop (x y k : Nat) : ∀ i, k + 1 ≤ i → cs x y i k = cs x y (k + 1) k
  | 0, h => by omega
  | i + 1, h => by
    by_cases e : k + 1 = i + 1
    · rw [e]
    · have := cs_stop x y k i (by omega)
      simp only [cs] at this ⊢
      rw [this, if_neg (show ¬ i ≤ k by omega), Nat.add_zero]
theorem cs_le (x y k : Nat) : ∀ i, cs x y i k ≤ i * 65025
  | 0 => by simp [cs]
  | i + 1 => by
    have ih := cs_le x y k i
    simp only [cs]
    have h1 : dg 256 x i ≤ 255 := Nat.le_of_lt_succ (dg_lt (by decide))
    have h2 : dg 256 y (k - i) ≤ 255 := Nat.le_of_lt_succ (dg_lt (by decide))
    have h3 : dg 256 x i * dg 256 y (k - i) ≤ 255 * 255 := Nat.mul_le_mul h1 h2
    generalize dg 256 x i * dg 256 y (k - i) = pr at *
    have h4 : pr ≤ 65025 := h3
    have h5 : (i + 1) * 65025 = i * 65025 + 65025 := Nat.succ_mul _ _
    rw [h5]
    split
    · exact Nat.add_le_add ih h4
    · exact Nat.le_trans (by rw [Nat.add_zero]; exact ih) (Nat.le_add_right _ _)
theorem dg_beyond {n y j : Nat} (hy : y < 256 ^ n) (h : n ≤ j) : dg 256 y j = 0 := by
  unfold dg
  rw [Nat.div_eq_of_lt (Nat.lt_of_lt_of_le hy (Nat.pow_le_pow_right (by decide) h)), Nat.zero_mod]
theorem cs_next {x y i k : Nat} (h : i ≤ k) : cs x y (i + 1) k = cs x y i k + dg 256 x i * dg 256 y (k - i) := by
  simp only [cs]; rw [if_pos h]

/-- a digit is laid down -/
theorem lay_step {D v T k : Nat} (hD : D < 256 ^ k) (h : D + v * 256 ^ k = T) : D + v % 256 * 256 ^ k < 256 ^ (k + 1) ∧ D + v % 256 * 256 ^ k + v / 256 * 256 ^ (k + 1) = T := by
  have h1 := Nat.div_add_mod v 256
  have h2 : v % 256 + 1 ≤ 256 := Nat.mod_lt _ (by decide)
  have h3 : (v % 256 + 1) * 256 ^ k ≤ 256 * 256 ^ k := Nat.mul_le_mul_right _ h2
  rw [Nat.add_mul] at h3
  rw [Nat.pow_succ]
  refine ⟨by omega, ?_⟩
  rw [← h, show v / 256 * (256 ^ k * 256) = 256 * (v / 256) * 256 ^ k by rw [Nat.mul_comm (256 ^ k), ← Nat.mul_assoc, Nat.mul_comm (v / 256)], Nat.add_assoc, ← Nat.add_mul, Nat.add_comm (v % 256), h1]
theorem dg_top {D d k : Nat} (hD : D < 256 ^ k) (hd : d < 256) : dg 256 (D + d * 256 ^ k) k = d := by
  unfold dg
  rw [Nat.add_mul_div_right _ _ (Nat.pow_pos (by decide)), Nat.div_eq_of_lt hD, Nat.zero_add, Nat.mod_eq_of_lt hd]
theorem dg_below {D d k j : Nat} (hj : j < k) : dg 256 (D + d * 256 ^ k) j = dg 256 D j := by
  rw [Nat.add_comm, dg_low (by decide) _ _ _ _ hj]
theorem add_step256 {D c x y i : Nat} (h : D + c * 256 ^ i = x % 256 ^ i + y % 256 ^ i) : D + (c + dg 256 x i + dg 256 y i) * 256 ^ i = x % 256 ^ (i + 1) + y % 256 ^ (i + 1) := by
  rw [mod_succ, mod_succ, Nat.add_mul, Nat.add_mul]
  omega
end ScalarNum
