import Derived.Test.YteijccjdejjbjaaFm0
namespace ScalarNum

theorem half_dg (Q j : Nat) : dg 256 (Q / 2) j = dg 256 Q j / 2 + dg 256 Q (j + 1) % 2 * 128 := by
  unfold dg
  have e : Q / 2 / 256 ^ j = Q / 256 ^ j / 2 := by rw [Nat.div_div_eq_div_mul, Nat.div_div_eq_div_mul, Nat.mul_comm]
  rw [e, Nat.pow_succ, ← Nat.div_div_eq_div_mul]
  generalize Q / 256 ^ j = q
  omega
theorem st_mod_next {b v k z : Nat} (hb : 0 < b) (hz : z < b) : st b v k z % b ^ (k + 1) = v % b ^ k + z * b ^ k := by
  rw [mod_succ, st_same hb hz]
  congr 1
  unfold st
  have e : v / b ^ (k + 1) * b ^ (k + 1) + z * b ^ k + v % b ^ k = v % b ^ k + (v / b ^ (k + 1) * b + z) * b ^ k := by
    rw [Nat.add_mul, Nat.pow_succ, Nat.mul_assoc _ b, Nat.mul_comm b]
    omega
  rw [e, Nat.add_mul_mod_self_right, Nat.mod_mod]
theorem half_step {cur Q j : Nat} (h1 : cur / 256 ^ j = Q / 256 ^ j) (h2 : cur % 256 ^ j = Q / 2 % 256 ^ j) :
    dg 256 cur j = dg 256 Q j ∧ dg 256 cur (j + 1) = dg 256 Q (j + 1) ∧ dg 256 Q j / 2 + dg 256 Q (j + 1) % 2 * 128 < 256 ∧
    st 256 cur j (dg 256 Q j / 2 + dg 256 Q (j + 1) % 2 * 128) / 256 ^ (j + 1) = Q / 256 ^ (j + 1) ∧
    st 256 cur j (dg 256 Q j / 2 + dg 256 Q (j + 1) % 2 * 128) % 256 ^ (j + 1) = Q / 2 % 256 ^ (j + 1) := by
  have e1 : dg 256 cur j = dg 256 Q j := by unfold dg; rw [h1]
  have h1' : cur / 256 ^ (j + 1) = Q / 256 ^ (j + 1) := div_succb h1
  have e2 : dg 256 cur (j + 1) = dg 256 Q (j + 1) := by unfold dg; rw [h1']
  have e3 : dg 256 Q j < 256 := dg_lt (by decide)
  have e4 : dg 256 Q j / 2 + dg 256 Q (j + 1) % 2 * 128 < 256 := by omega
  refine ⟨e1, e2, e4, ?_, ?_⟩
  · rw [st_div (by decide) e4]; exact h1'
  · rw [st_mod_next (by decide) e4, h2, mod_succ, half_dg]
/-- a digit is taken off, byte by byte -/
theorem off_step {cur j : Nat} {c T q : Int} {r : Nat} (h : (cur : Int) + c * ((256 ^ j : Nat) : Int) = T) (hv : ((dg 256 cur j : Nat) : Int) + c = 256 * q + (r : Int)) :
    ((st 256 cur j r : Nat) : Int) + q * ((256 ^ (j + 1) : Nat) : Int) = T := by
  have h1 := st_eq 256 cur j r
  have h2 : ((st 256 cur j r : Nat) : Int) + ((dg 256 cur j : Nat) : Int) * ((256 ^ j : Nat) : Int) = (cur : Int) + (r : Int) * ((256 ^ j : Nat) : Int) := by
    have := congrArg (fun n : Nat => (n : Int)) h1
    simpa using this
  rw [Nat.pow_succ, Int.natCast_mul]
  generalize ((256 ^ j : Nat) : Int) = P at *
  generalize ((st 256 cur j r : Nat) : Int) = s at *
  generalize ((dg 256 cur j : Nat) : Int) = w at *
  have e : w * P + c * P = 256 * q * P + (r : Int) * P := by rw [← Int.add_mul, hv, Int.add_mul]
  have e2 : q * (P * ((256 : Nat) : Int)) = 256 * q * P := by
    rw [show ((256 : Nat) : Int) = 256 from rfl, Int.mul_comm P 256, ← Int.mul_assoc, Int.mul_comm q 256]
  rw [e2]
  omega
theorem off_end {cur : Nat} {c : Int} {Q : Nat} (h : (cur : Int) + c * ((256 ^ 34 : Nat) : Int) = (Q : Int)) (hc : cur < 256 ^ 34) (hQ : Q < 256 ^ 34) : cur = Q := by
  generalize 256 ^ 34 = P at *
  have h1 : c = 0 := by
    rcases Int.lt_trichotomy c 0 with h2 | h2 | h2
    · exfalso
      have : c * (P : Int) ≤ -1 * (P : Int) := Int.mul_le_mul_of_nonneg_right (by omega) (by omega)
      omega
    · exact h2
    · exfalso
      have : 1 * (P : Int) ≤ c * (P : Int) := Int.mul_le_mul_of_nonneg_right (by omega) (by omega)
      omega
  rw [h1, Int.zero_mul] at h
  omega
theorem byte_mod (N k : Nat) (hk : k ≤ 8) : dg 256 N 0 % 2 ^ k = N % 2 ^ k := by
  unfold dg
  rw [Nat.pow_zero, Nat.div_one, show 256 = 2 ^ k * 2 ^ (8 - k) from by rw [← Nat.pow_add, show k + (8 - k) = 8 by omega], Nat.mod_mul_right_mod]
theorem byte_two (N : Nat) : dg 256 N 0 % 2 = N % 2 := by
  have := byte_mod N 1 (by decide)
  rwa [Nat.pow_one] at this
/-- the reference's digit -/
theorem ref_digit {N k : Nat} (hk : 2 ≤ k) (ho : ¬ N % 2 = 0) : (2 ^ (k - 1) < N % 2 ^ k → nd k N = ((N % 2 ^ k : Nat) : Int) - ((2 ^ k : Nat) : Int)) ∧ (¬ 2 ^ (k - 1) < N % 2 ^ k → nd k N = ((N % 2 ^ k : Nat) : Int)) := by
  have hp : 2 ^ k = 2 * 2 ^ (k - 1) := by rw [← Nat.pow_succ']; congr 1; omega
  have h2 : N % 2 ^ k % 2 = N % 2 := by rw [hp, Nat.mod_mul_right_mod]
  have he : ∃ t, 2 ^ (k - 1) = 2 * t := ⟨2 ^ (k - 2), by rw [← Nat.pow_succ']; congr 1; omega⟩
  obtain ⟨t, ht⟩ := he
  unfold nd
  rw [if_neg ho]
  rw [ht]
  generalize 2 ^ k = P at *
  generalize N % P = e at *
  constructor
  · intro h; rw [if_neg (by omega)]
  · intro h; rw [if_pos (by omega)]
theorem pow_half {k : Nat} (hk : 2 ≤ k) (hk8 : k ≤ 8) : ((2 ^ k : Nat) : Int).tdiv 2 = ((2 ^ (k - 1) : Nat) : Int) ∧ 2 ^ k ≤ 256 ∧ 4 ≤ 2 ^ k := by
  have hp : 2 ^ k = 2 * 2 ^ (k - 1) := by rw [← Nat.pow_succ']; congr 1; omega
  have h1 : 2 ^ k ≤ 2 ^ 8 := Nat.pow_le_pow_right (by decide) hk8
  have h2 : 2 ^ 2 ≤ 2 ^ k := Nat.pow_le_pow_right (by decide) hk
  refine ⟨?_, by omega, by omega⟩
  rw [hp, Int.natCast_mul]
  exact Int.mul_tdiv_cancel_left _ (by decide)
theorem tmod_nat (a b : Nat) : (a : Int).tmod (b : Int) = ((a % b : Nat) : Int) := by
  rw [Int.tmod_eq_emod_of_nonneg (by omega)]; rfl
end ScalarNum
