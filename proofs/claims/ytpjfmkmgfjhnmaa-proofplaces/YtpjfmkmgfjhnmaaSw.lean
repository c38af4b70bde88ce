import Derived.Test.YtpjfmkmgfjhnmaaLg
namespace Tlg

theorem and_split (a b : Nat) : a &&& b = (a % 256 &&& b % 256) + 256 * (a / 256 &&& b / 256) := by
  have h1 : (a &&& b) % 2 ^ 8 = a % 2 ^ 8 &&& b % 2 ^ 8 := Nat.and_mod_two_pow
  have h2 : (a &&& b) / 2 ^ 8 = a / 2 ^ 8 &&& b / 2 ^ 8 := Nat.and_div_two_pow
  have h3 := Nat.mod_add_div (a &&& b) (2 ^ 8)
  rw [h1, h2] at h3
  exact h3.symm
/-- k bytes m behind one another -/
def msk (m : Nat) : Nat → Nat
  | 0 => 0
  | k + 1 => m + 256 * msk m k
theorem and_msk (x m k : Nat) (hm : m < 256) : x &&& msk m (k + 1) = (x % 256 &&& m) + 256 * (x / 256 &&& msk m k) := by
  rw [and_split, msk]
  rw [show (m + 256 * msk m k) % 256 = m by omega, show (m + 256 * msk m k) / 256 = msk m k by omega]
def s1 (k x : Nat) : Nat := (x / 2 &&& msk 85 k) + (x &&& msk 85 k)
def s2 (k x : Nat) : Nat := (x / 4 &&& msk 51 k) + (x &&& msk 51 k)
def s3 (k x : Nat) : Nat := (x / 16 + x) &&& msk 15 k
def g1 (b : Nat) : Nat := (b / 2 &&& 85) + (b &&& 85)
def g2 (b : Nat) : Nat := (b / 4 &&& 51) + (b &&& 51)
/-- the ones of each byte, in bytes -/
def cnts (x : Nat) : Nat → Nat
  | 0 => 0
  | k + 1 => pc (x % 256) + 256 * cnts (x / 256) k
theorem f1 : ∀ b < 512, (b / 2 % 256 &&& 85) + (b % 256 &&& 85) = g1 (b % 256) := by decide +kernel
theorem f2 : ∀ b < 1024, (b / 4 % 256 &&& 51) + (b % 256 &&& 51) = g2 (b % 256) := by decide +kernel
theorem f3 : ∀ b < 256, g1 b < 256 ∧ g2 (g1 b) < 256 ∧ g2 (g1 b) % 16 ≤ 4 ∧ g2 (g1 b) / 16 ≤ 4 := by decide +kernel
theorem f4 : ∀ c < 16, (c &&& 15) = c := by decide +kernel
/-- the ones of a byte -/
def pc8 (b : Nat) : Nat := b % 2 + b / 2 % 2 + b / 4 % 2 + b / 8 % 2 + b / 16 % 2 + b / 32 % 2 + b / 64 % 2 + b / 128 % 2
theorem f5 : ∀ b < 256, g2 (g1 b) % 16 + g2 (g1 b) / 16 = pc8 b := by decide +kernel
theorem pc_split (k n : Nat) : ∀ x, x % 2 ^ k = n → pc x = pc n + pc (x / 2 ^ k) := by
  induction k generalizing n with
  | zero =>
    intro x h
    rw [Nat.pow_zero, Nat.mod_one] at h
    subst h
    rw [pc_zero, Nat.pow_zero, Nat.div_one, Nat.zero_add]
  | succ k ih =>
    intro x h
    have e : x / 2 % 2 ^ k = n / 2 := by
      subst h
      rw [Nat.pow_succ, Nat.mul_comm, Nat.mod_mul]
      omega
    have e2 : n % 2 = x % 2 := by
      subst h
      rw [Nat.pow_succ, Nat.mul_comm, Nat.mod_mul]
      omega
    have := ih (n / 2) (x / 2) e
    rw [pc_step x, this, pc_step n, e2, Nat.pow_succ, Nat.mul_comm (2 ^ k) 2, ← Nat.div_div_eq_div_mul]
    omega
theorem pc_8 (b : Nat) (h : b < 256) : pc b = pc8 b := by
  rw [pc_step b, pc_step (b / 2), pc_step (b / 2 / 2), pc_step (b / 2 / 2 / 2), pc_step (b / 2 / 2 / 2 / 2), pc_step (b / 2 / 2 / 2 / 2 / 2), pc_step (b / 2 / 2 / 2 / 2 / 2 / 2), pc_step (b / 2 / 2 / 2 / 2 / 2 / 2 / 2), show b / 2 / 2 / 2 / 2 / 2 / 2 / 2 / 2 = 0 by omega, pc_zero]
  unfold pc8
  omega
theorem s1_step (k x : Nat) : s1 (k + 1) x = g1 (x % 256) + 256 * s1 k (x / 256) := by
  unfold s1
  rw [and_msk _ _ _ (by decide), and_msk _ _ _ (by decide)]
  have h := f1 (x % 512) (by omega)
  rw [show x % 512 / 2 % 256 = x / 2 % 256 by omega, show x % 512 % 256 = x % 256 by omega] at h
  rw [show x / 2 / 256 = x / 256 / 2 by omega]
  omega
theorem s2_step (k x : Nat) : s2 (k + 1) x = g2 (x % 256) + 256 * s2 k (x / 256) := by
  unfold s2
  rw [and_msk _ _ _ (by decide), and_msk _ _ _ (by decide)]
  have h := f2 (x % 1024) (by omega)
  rw [show x % 1024 / 4 % 256 = x / 4 % 256 by omega, show x % 1024 % 256 = x % 256 by omega] at h
  rw [show x / 4 / 256 = x / 256 / 4 by omega]
  omega
theorem s_low (k x : Nat) : s2 k (s1 k x) % 16 ≤ 4 := by
  cases k with
  | zero => simp [s2, msk]
  | succ k =>
    obtain ⟨a, b, c, d⟩ := f3 (x % 256) (by omega)
    rw [s1_step, s2_step, show (g1 (x % 256) + 256 * s1 k (x / 256)) % 256 = g1 (x % 256) by omega]
    omega
theorem and_15 (x : Nat) : x % 256 &&& 15 = x % 16 := by
  have h : (x % 2 ^ 8) &&& (2 ^ 4 - 1) = x % 2 ^ 8 % 2 ^ 4 := Nat.and_two_pow_sub_one_eq_mod _ _
  have h2 : x % 256 &&& 15 = x % 256 % 16 := h
  rw [h2]; omega
theorem s_all (k x : Nat) : s3 k (s2 k (s1 k x)) = cnts x k := by
  induction k generalizing x with
  | zero => simp [s3, msk, cnts]
  | succ k ih =>
    obtain ⟨a, b, c, d⟩ := f3 (x % 256) (by omega)
    have h5 := f5 (x % 256) (by omega)
    have hl := s_low k (x / 256)
    have hi := ih (x / 256)
    rw [cnts, pc_8 _ (by omega), ← hi, ← h5]
    rw [s1_step, s2_step, show (g1 (x % 256) + 256 * s1 k (x / 256)) % 256 = g1 (x % 256) by omega, show (g1 (x % 256) + 256 * s1 k (x / 256)) / 256 = s1 k (x / 256) by omega]
    generalize g2 (g1 (x % 256)) = e at *
    generalize s2 k (s1 k (x / 256)) = z at *
    unfold s3
    rw [and_msk _ _ _ (by decide), and_15, show ((e + 256 * z) / 16 + (e + 256 * z)) / 256 = z / 16 + z by omega]
    omega
theorem pc8_le (b : Nat) : pc8 b ≤ 8 := by unfold pc8; omega
theorem pc_256 (x : Nat) : pc x = pc (x % 256) + pc (x / 256) := pc_split 8 (x % 256) x rfl
theorem dv {B : Nat} (r q : Nat) (h : r < B) : (r + B * q) / B = q := by
  rw [Nat.add_mul_div_left _ _ (by omega), Nat.div_eq_of_lt h, Nat.zero_add]
theorem id1 (p0 p1 p2 p3 p4 p5 p6 p7 : Nat) : p0 + 256 * (p1 + 256 * (p2 + 256 * (p3 + 256 * (p4 + 256 * (p5 + 256 * (p6 + 256 * p7)))))) + (p1 + 256 * (p2 + 256 * (p3 + 256 * (p4 + 256 * (p5 + 256 * (p6 + 256 * p7)))))) = ((p0 + p1) + 256 * (p1 + p2)) + 65536 * ((p2 + p3) + 256 * (p3 + p4) + 65536 * ((p4 + p5) + 256 * (p5 + p6) + 65536 * ((p6 + p7) + 256 * p7))) := by omega
theorem id2 (p0 p1 p2 p3 p4 p5 p6 p7 : Nat) : ((p0 + p1) + 256 * (p1 + p2)) + 65536 * ((p2 + p3) + 256 * (p3 + p4) + 65536 * ((p4 + p5) + 256 * (p5 + p6) + 65536 * ((p6 + p7) + 256 * p7))) + ((p2 + p3) + 256 * (p3 + p4) + 65536 * ((p4 + p5) + 256 * (p5 + p6) + 65536 * ((p6 + p7) + 256 * p7))) = ((p0 + p1 + p2 + p3) + 256 * (p1 + p2 + p3 + p4) + 65536 * (p2 + p3 + p4 + p5) + 16777216 * (p3 + p4 + p5 + p6)) + 4294967296 * ((p4 + p5 + p6 + p7) + 256 * (p5 + p6 + p7) + 65536 * (p6 + p7) + 16777216 * p7) := by omega
theorem id3 (p0 p1 p2 p3 p4 p5 p6 p7 : Nat) : ((p0 + p1 + p2 + p3) + 256 * (p1 + p2 + p3 + p4) + 65536 * (p2 + p3 + p4 + p5) + 16777216 * (p3 + p4 + p5 + p6)) + 4294967296 * ((p4 + p5 + p6 + p7) + 256 * (p5 + p6 + p7) + 65536 * (p6 + p7) + 16777216 * p7) + ((p4 + p5 + p6 + p7) + 256 * (p5 + p6 + p7) + 65536 * (p6 + p7) + 16777216 * p7) = (p0 + (p1 + (p2 + (p3 + (p4 + (p5 + (p6 + p7))))))) + 128 * (2 * (p1 + p2 + p3 + p4 + p5 + p6 + p7) + 512 * (p2 + p3 + p4 + p5 + p6 + p7) + 131072 * (p3 + p4 + p5 + p6 + p7) + 33554432 * (p4 + p5 + p6 + p7) + 8589934592 * (p5 + p6 + p7) + 2199023255552 * (p6 + p7) + 562949953421312 * p7) := by omega
theorem ones_sum (p0 p1 p2 p3 p4 p5 p6 p7 t a b c : Nat) (q0 : p0 ≤ 8) (q1 : p1 ≤ 8) (q2 : p2 ≤ 8) (q3 : p3 ≤ 8) (q4 : p4 ≤ 8) (q5 : p5 ≤ 8) (q6 : p6 ≤ 8) (q7 : p7 ≤ 8)
    (ht : t = p0 + 256 * (p1 + 256 * (p2 + 256 * (p3 + 256 * (p4 + 256 * (p5 + 256 * (p6 + 256 * p7))))))) (ha : a = t + t / 256) (hb : b = a + a / 65536) (hc : c = b + b / 4294967296) :
    t < 1152921504606846976 ∧ a < 2305843009213693952 ∧ b < 4611686018427387904 ∧ c < 9223372036854775808 ∧ c % 128 = p0 + (p1 + (p2 + (p3 + (p4 + (p5 + (p6 + p7)))))) := by
  have t7 : p6 + 256 * p7 ≤ 2056 := by omega
  have t6 : p5 + 256 * (p6 + 256 * p7) ≤ 526344 := by generalize p6 + 256 * p7 = y at *; clear ht; omega
  have t5 : p4 + 256 * (p5 + 256 * (p6 + 256 * p7)) ≤ 134744072 := by generalize p5 + 256 * (p6 + 256 * p7) = y at *; clear ht; omega
  have t4 : p3 + 256 * (p4 + 256 * (p5 + 256 * (p6 + 256 * p7))) ≤ 34494482440 := by generalize p4 + 256 * (p5 + 256 * (p6 + 256 * p7)) = y at *; clear ht; omega
  have t3 : p2 + 256 * (p3 + 256 * (p4 + 256 * (p5 + 256 * (p6 + 256 * p7)))) ≤ 8830587504648 := by generalize p3 + 256 * (p4 + 256 * (p5 + 256 * (p6 + 256 * p7))) = y at *; clear ht; omega
  have t2 : p1 + 256 * (p2 + 256 * (p3 + 256 * (p4 + 256 * (p5 + 256 * (p6 + 256 * p7))))) ≤ 2260630401189896 := by generalize p2 + 256 * (p3 + 256 * (p4 + 256 * (p5 + 256 * (p6 + 256 * p7)))) = y at *; clear ht; omega
  have t1 : t ≤ 578721382704613384 := by rw [ht]; generalize p1 + 256 * (p2 + 256 * (p3 + 256 * (p4 + 256 * (p5 + 256 * (p6 + 256 * p7))))) = y at *; clear ht; omega
  clear t2 t3 t4 t5 t6 t7
  have ba : a < 2305843009213693952 := by clear hb hc ht; have := Nat.div_le_self t 256; generalize t / 256 = y at *; omega
  have bb : b < 4611686018427387904 := by clear hc ht; have := Nat.div_le_self a 65536; generalize a / 65536 = y at *; clear ha; omega
  have bc : c < 9223372036854775808 := by clear ht ha; have := Nat.div_le_self b 4294967296; generalize b / 4294967296 = y at *; clear hb; omega
  refine ⟨by omega, ba, bb, bc, ?_⟩
  clear ba bb bc t1
  rw [ht, dv p0 _ (by clear ht ha hb hc; omega), id1] at ha
  clear ht
  rw [ha, dv _ _ (by clear ha hb hc; omega), id2] at hb
  clear ha
  rw [hb, dv _ _ (by clear hb hc; omega), id3] at hc
  clear hb
  rw [hc, Nat.add_mul_mod_self_left, Nat.mod_eq_of_lt (by clear hc; omega)]
theorem dlt {x B : Nat} (h : x < 256 * B) : x / 256 < B := Nat.div_lt_of_lt_mul h
/-- math/bits.OnesCount64 -/
theorem swar {x : Nat} (hx : x < 18446744073709551616) (t a b c : Nat) (ht : t = s3 8 (s2 8 (s1 8 x))) (ha : a = t + t / 256) (hb : b = a + a / 65536) (hc : c = b + b / 4294967296) :
    t < 1152921504606846976 ∧ a < 2305843009213693952 ∧ b < 4611686018427387904 ∧ c < 9223372036854775808 ∧ c % 128 = pc x := by
  rw [s_all 8 x] at ht
  have hz : x / 256 / 256 / 256 / 256 / 256 / 256 / 256 / 256 = 0 := by
    have : x / 256 / 256 / 256 / 256 / 256 / 256 / 256 / 256 < 1 := dlt (dlt (dlt (dlt (dlt (dlt (dlt (dlt hx)))))))
    generalize x / 256 / 256 / 256 / 256 / 256 / 256 / 256 / 256 = z at *
    omega
  have hp : pc x = pc (x % 256) + (pc (x / 256 % 256) + (pc (x / 256 / 256 % 256) + (pc (x / 256 / 256 / 256 % 256) + (pc (x / 256 / 256 / 256 / 256 % 256) + (pc (x / 256 / 256 / 256 / 256 / 256 % 256) + (pc (x / 256 / 256 / 256 / 256 / 256 / 256 % 256) + pc (x / 256 / 256 / 256 / 256 / 256 / 256 / 256 % 256))))))) := by
    rw [pc_256 x, pc_256 (x / 256), pc_256 (x / 256 / 256), pc_256 (x / 256 / 256 / 256), pc_256 (x / 256 / 256 / 256 / 256), pc_256 (x / 256 / 256 / 256 / 256 / 256), pc_256 (x / 256 / 256 / 256 / 256 / 256 / 256), pc_256 (x / 256 / 256 / 256 / 256 / 256 / 256 / 256), hz, pc_zero, Nat.add_zero]
  have hle : ∀ y, pc (y % 256) ≤ 8 := fun y => by rw [pc_8 _ (Nat.mod_lt _ (by decide))]; exact pc8_le _
  rw [hp]
  simp only [cnts, Nat.mul_zero, Nat.add_zero] at ht
  exact ones_sum _ _ _ _ _ _ _ _ t a b c (hle _) (hle _) (hle _) (hle _) (hle _) (hle _) (hle _) (hle _) ht ha hb hc
end Tlg
