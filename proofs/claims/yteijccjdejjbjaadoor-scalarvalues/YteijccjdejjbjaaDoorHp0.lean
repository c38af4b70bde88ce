import Derived.Test.YteijccjdejjbjaaDoorHs
namespace Go.Proofs.YteijccjdejjbjaaDoor
open Go.RowKit Go.Shelf ScalarNum

/-- the digits above 0 (sg = 1), or the others turned round (sg = -1) -/
def pp (f : Nat → I8) (sg : Int) (i : Nat) : Nat := (sg * (f i).1).toNat
theorem pp_le {f : Nat → I8} {sg : Int} (hs : sg = 1 ∨ sg = -1) (i : Nat) : pp f sg i ≤ 128 := by
  have := (f i).2
  unfold pp
  rcases hs with rfl | rfl <;> omega
/-- what the forty sums hold when i digits have come -/
def SS (p : Nat → Nat) : Nat → Nat → Nat
  | 0, _ => 0
  | i + 1, k => if k = i / 8 then SS p i k + p i * 2 ^ (i % 8) else SS p i k
/-- the first k sums, as a number -/
def tot (S : Nat → Nat) : Nat → Nat
  | 0 => 0
  | k + 1 => tot S k + S k * 256 ^ k
/-- the first i digits, as a number -/
def dsum (p : Nat → Nat) : Nat → Nat
  | 0 => 0
  | i + 1 => dsum p i + p i * 2 ^ i

theorem SS_le {p : Nat → Nat} (hp : ∀ i, p i ≤ 128) : ∀ i k, SS p i k ≤ 16384 * i
  | 0, k => by simp [SS]
  | i + 1, k => by
    have ih := SS_le hp i k
    have h1 : p i * 2 ^ (i % 8) ≤ 128 * 128 := Nat.mul_le_mul (hp i) (by
      have : i % 8 < 8 := Nat.mod_lt _ (by decide)
      exact Nat.le_trans (Nat.pow_le_pow_right (by decide) (show i % 8 ≤ 7 by omega)) (by decide))
    unfold SS
    split <;> omega
theorem tot_add (S T : Nat → Nat) (q x : Nat) (h : ∀ k, T k = if k = q then S k + x else S k) : ∀ k, tot T k = if q < k then tot S k + x * 256 ^ q else tot S k
  | 0 => by simp [tot]
  | k + 1 => by
    have ih := tot_add S T q x h k
    show tot T k + T k * 256 ^ k = _
    rw [ih, h k]
    by_cases e : k = q
    · subst e
      rw [if_neg (by omega), if_pos rfl, if_pos (by omega)]
      show tot S k + (S k + x) * 256 ^ k = tot S k + S k * 256 ^ k + x * 256 ^ k
      rw [Nat.add_mul]; omega
    · rw [if_neg e]
      by_cases hl : q < k
      · rw [if_pos hl, if_pos (by omega)]
        show tot S k + x * 256 ^ q + S k * 256 ^ k = tot S k + S k * 256 ^ k + x * 256 ^ q
        omega
      · rw [if_neg hl, if_neg (by omega)]
        rfl
theorem two_oct (i : Nat) : 2 ^ (i % 8) * 256 ^ (i / 8) = 2 ^ i := by
  rw [show (256 : Nat) = 2 ^ 8 from by decide, ← Nat.pow_mul, ← Nat.pow_add]
  congr 1
  omega
theorem tot_SS (p : Nat → Nat) : ∀ i, i ≤ 320 → tot (SS p i) 40 = dsum p i
  | 0, _ => by
    have : ∀ k, tot (SS p 0) k = 0 := fun k => by
      induction k with
      | zero => rfl
      | succ k ih => show tot (SS p 0) k + 0 * 256 ^ k = 0; rw [ih, Nat.zero_mul]
    exact this 40
  | i + 1, h => by
    have ih := tot_SS p i (by omega)
    rw [tot_add (SS p i) (SS p (i + 1)) (i / 8) (p i * 2 ^ (i % 8)) (fun k => rfl) 40, if_pos (by omega), ih, Nat.mul_assoc, two_oct]
    rfl
theorem dsum_lt {p : Nat → Nat} (hp : ∀ i, p i ≤ 128) : ∀ i, dsum p i + 128 ≤ 128 * 2 ^ i
  | 0 => by simp [dsum]
  | i + 1 => by
    have ih := dsum_lt hp i
    have h1 : p i * 2 ^ i ≤ 128 * 2 ^ i := Nat.mul_le_mul_right _ (hp i)
    show dsum p i + p i * 2 ^ i + 128 ≤ 128 * 2 ^ (i + 1)
    rw [Nat.pow_succ]
    omega
theorem pow8 {i n : Nat} (h : 7 + i ≤ 8 * n) : 128 * 2 ^ i ≤ 256 ^ n := by
  rw [show (256 : Nat) = 2 ^ 8 from by decide, ← Nat.pow_mul, show (128 : Nat) = 2 ^ 7 from by decide, ← Nat.pow_add]
  exact Nat.pow_le_pow_right (by decide) h
theorem dsum_256 {p : Nat → Nat} (hp : ∀ i, p i ≤ 128) {i : Nat} (hi : i ≤ 300) : dsum p i < 256 ^ 40 := by
  have h := dsum_lt hp i
  exact Nat.lt_of_lt_of_le (Nat.lt_of_lt_of_le (Nat.lt_add_of_pos_right (by decide)) h) (pow8 (by omega))
/-- a round of the carry -/
theorem carry_step {S : Nat → Nat} {D c k : Nat} (h : D + c * 256 ^ k = tot S k) : D + (S k + c) % 256 * 256 ^ k + (S k + c) / 256 * 256 ^ (k + 1) = tot S (k + 1) := by
  show _ = tot S k + S k * 256 ^ k
  have e := Nat.mod_add_div (S k + c) 256
  have e2 : (S k + c) % 256 * 256 ^ k + (S k + c) / 256 * 256 ^ (k + 1) = (S k + c) * 256 ^ k := by
    rw [Nat.pow_succ, ← Nat.mul_assoc, Nat.mul_right_comm, ← Nat.add_mul, Nat.mul_comm ((S k + c) / 256) 256, e]
  rw [Nat.add_assoc, e2, Nat.add_mul, ← h]
  omega
/-- the number of the digits is what is above 0 less what is below -/
theorem hs_parts (f : Nat → I8) : ∀ n, hs f 0 n = (dsum (pp f 1) n : Int) - (dsum (pp f (-1)) n : Int)
  | 0 => rfl
  | n + 1 => by
    have ih := hs_parts f n
    have h := hs_add f 1 n 0
    rw [Nat.zero_add] at h
    rw [h, ih]
    have e1 : hs f n 1 = (f n).1 := by simp [hs]
    have e2 : ((pp f 1 n : Nat) : Int) - ((pp f (-1) n : Nat) : Int) = (f n).1 := by unfold pp; omega
    show _ = (((dsum (pp f 1) n + pp f 1 n * 2 ^ n : Nat)) : Int) - (((dsum (pp f (-1)) n + pp f (-1) n * 2 ^ n : Nat)) : Int)
    rw [e1, ← e2, Int.natCast_add, Int.natCast_add, Int.natCast_mul, Int.natCast_mul, Int.mul_sub, Int.natCast_pow, Int.mul_comm, Int.mul_comm (2 ^ n)]
    have e3 : ((2 : Nat) : Int) = 2 := rfl
    rw [e3]
    omega
end Go.Proofs.YteijccjdejjbjaaDoor
