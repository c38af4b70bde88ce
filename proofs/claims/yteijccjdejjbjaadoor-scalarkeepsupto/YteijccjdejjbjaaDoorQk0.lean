import Derived.Test.YteijccjdejjbjaaDoorRows
import Derived.Shelf.Bits.Mul64
import Derived.Shelf.Spec.BitsCarry
import Derived.WalkKit
import Derived.WalkSpells
import Derived.StillTactics
import Derived.Laws.Pointers
import Derived.RowKit3
import Derived.Handy
import Derived.Deep.MidRow
import Derived.Deep.QuietTactic
import Derived.BigQuiet
import Derived.Deep.RegionHeld3
import Derived.BigRegion
namespace ScalarNum

/-- digit i of v in base b -/
def dg (b v i : Nat) : Nat := v / b ^ i % b

/-- v with digit k put to z -/
def st (b v k z : Nat) : Nat := v / b ^ (k + 1) * b ^ (k + 1) + z * b ^ k + v % b ^ k

theorem dg_lt {b v i : Nat} (hb : 0 < b) : dg b v i < b := Nat.mod_lt _ hb

theorem split3 (b v k : Nat) : v = v / b ^ (k + 1) * b ^ (k + 1) + dg b v k * b ^ k + v % b ^ k := by
  have h1 := Nat.div_add_mod v (b ^ k)
  have h2 := Nat.div_add_mod (v / b ^ k) b
  rw [Nat.div_div_eq_div_mul, ← Nat.pow_succ] at h2
  unfold dg
  rw [Nat.pow_succ]
  rw [Nat.pow_succ] at h2
  generalize v / b ^ k % b = d at *
  generalize v / (b ^ k * b) = q at *
  generalize v / b ^ k = m at *
  generalize v % b ^ k = r at *
  generalize b ^ k = B at *
  subst h2
  rw [← h1, Nat.mul_add, Nat.mul_comm B d]
  congr 2
  rw [← Nat.mul_assoc, Nat.mul_comm]

theorem st_eq (b v k z : Nat) : st b v k z + dg b v k * b ^ k = v + z * b ^ k := by
  have h := split3 b v k
  unfold st
  omega

theorem st_same {b v k z : Nat} (hb : 0 < b) (hz : z < b) : dg b (st b v k z) k = z := by
  unfold dg st
  have hp : 0 < b ^ k := Nat.pow_pos hb
  have e : v / b ^ (k + 1) * b ^ (k + 1) + z * b ^ k + v % b ^ k = v % b ^ k + b ^ k * (b * (v / b ^ (k + 1)) + z) := by
    rw [Nat.pow_succ, Nat.mul_add]
    generalize v / (b ^ k * b) = q
    have e1 : q * (b ^ k * b) = b ^ k * (b * q) := by rw [← Nat.mul_assoc (b ^ k), Nat.mul_comm]
    rw [e1, Nat.mul_comm (b ^ k) z]
    omega
  rw [e, Nat.add_mul_div_left _ _ hp, Nat.div_eq_of_lt (Nat.mod_lt _ hp), Nat.zero_add, Nat.mul_add_mod, Nat.mod_eq_of_lt hz]

theorem dg_low {b : Nat} (hb : 0 < b) (q r j k : Nat) (h : j < k) : dg b (q * b ^ k + r) j = dg b r j := by
  obtain ⟨t, rfl⟩ : ∃ t, k = j + 1 + t := ⟨k - (j + 1), by omega⟩
  unfold dg
  have e : q * b ^ (j + 1 + t) + r = r + b ^ j * (b * (q * b ^ t)) := by
    rw [Nat.pow_add, Nat.pow_succ, Nat.add_comm]
    congr 1
    generalize b ^ j = x
    generalize b ^ t = y
    simp only [Nat.mul_left_comm, Nat.mul_comm]
  rw [e, Nat.add_mul_div_left _ _ (Nat.pow_pos hb), Nat.add_mul_mod_self_left]

theorem dg_high {b : Nat} (hb : 0 < b) (q r j k : Nat) (h : k ≤ j) (hr : r < b ^ k) : dg b (q * b ^ k + r) j = dg b q (j - k) := by
  obtain ⟨t, rfl⟩ : ∃ t, j = k + t := ⟨j - k, by omega⟩
  unfold dg
  have hp : 0 < b ^ k := Nat.pow_pos hb
  rw [Nat.pow_add, ← Nat.div_div_eq_div_mul, Nat.mul_comm q, Nat.mul_add_div hp, Nat.div_eq_of_lt hr, Nat.add_zero, Nat.add_sub_cancel_left]

theorem st_other {b v k z j : Nat} (hb : 0 < b) (hz : z < b) (hj : j ≠ k) : dg b (st b v k z) j = dg b v j := by
  have hp : 0 < b ^ k := Nat.pow_pos hb
  have hr := Nat.mod_lt v hp
  rcases Nat.lt_or_gt_of_ne hj with h | h
  · have e1 : st b v k z = (v / b ^ (k + 1) * b + z) * b ^ k + v % b ^ k := by
      unfold st
      rw [Nat.add_mul, Nat.pow_succ, Nat.mul_assoc, Nat.mul_comm b]
    have e2 : v = v / b ^ k * b ^ k + v % b ^ k := by rw [Nat.mul_comm]; exact (Nat.div_add_mod v _).symm
    rw [e1, dg_low hb _ _ _ _ h]
    conv => rhs; rw [e2, dg_low hb _ _ _ _ h]
  · have e1 : st b v k z = v / b ^ (k + 1) * b ^ (k + 1) + (z * b ^ k + v % b ^ k) := by unfold st; omega
    have e2 : v = v / b ^ (k + 1) * b ^ (k + 1) + v % b ^ (k + 1) := by rw [Nat.mul_comm]; exact (Nat.div_add_mod v _).symm
    have hr1 : z * b ^ k + v % b ^ k < b ^ (k + 1) := by
      rw [Nat.pow_succ, Nat.mul_comm _ b]
      have : (z + 1) * b ^ k ≤ b * b ^ k := Nat.mul_le_mul_right _ hz
      rw [Nat.add_mul] at this
      omega
    rw [e1, dg_high hb _ _ _ _ h hr1]
    conv => rhs; rw [e2, dg_high hb _ _ _ _ h (Nat.mod_lt _ (Nat.pow_pos hb))]

/-- the digits of v in base b, n of them -/
def ds (b n v : Nat) : List Nat := (List.range n).map (dg b v)
theorem ds_length (b n v : Nat) : (ds b n v).length = n := by simp [ds]
theorem ds_get (b n v i : Nat) (h : i < n) : (ds b n v)[i]? = some (dg b v i) := by simp [ds, h]
theorem ds_set {b n v k z : Nat} (hb : 0 < b) (hz : z < b) (hk : k < n) : (ds b n v).set k z = ds b n (st b v k z) := by
  apply List.ext_getElem?
  intro j
  rw [List.getElem?_set]
  by_cases hj : j < n
  · rw [ds_get _ _ _ _ hj]
    by_cases h : k = j
    · subst h
      rw [if_pos rfl, ds_length, if_pos hk, ds_get _ _ _ _ hk, st_same hb hz]
    · rw [if_neg h, ds_get _ _ _ _ hj, st_other hb hz (fun e => h e.symm)]
  · have h1 : (ds b n (st b v k z))[j]? = none := by simp [ds_length]; omega
    rw [h1]
    have h2 : (ds b n v)[j]? = none := by simp [ds_length]; omega
    rw [if_neg (by omega), h2]
theorem st_lt {b n v k z : Nat} (hb : 0 < b) (hz : z < b) (hk : k < n) (hv : v < b ^ n) : st b v k z < b ^ n := by
  have e1 : st b v k z = v / b ^ (k + 1) * b ^ (k + 1) + (z * b ^ k + v % b ^ k) := by unfold st; omega
  have hp : 0 < b ^ k := Nat.pow_pos hb
  have hr := Nat.mod_lt v hp
  have hr1 : z * b ^ k + v % b ^ k < b ^ (k + 1) := by
    rw [Nat.pow_succ, Nat.mul_comm _ b]
    have : (z + 1) * b ^ k ≤ b * b ^ k := Nat.mul_le_mul_right _ hz
    rw [Nat.add_mul] at this
    omega
  obtain ⟨t, rfl⟩ : ∃ t, n = k + 1 + t := ⟨n - (k + 1), by omega⟩
  rw [Nat.pow_add] at hv ⊢
  have hq : v / b ^ (k + 1) < b ^ t := Nat.div_lt_of_lt_mul hv
  have h3 : (v / b ^ (k + 1) + 1) * b ^ (k + 1) ≤ b ^ t * b ^ (k + 1) := Nat.mul_le_mul_right _ hq
  rw [Nat.add_mul] at h3
  rw [Nat.mul_comm (b ^ (k + 1))]
  omega
theorem mod_succ (b v k : Nat) : v % b ^ (k + 1) = v % b ^ k + dg b v k * b ^ k := by
  unfold dg
  rw [Nat.pow_succ, Nat.mod_mul, Nat.mul_comm]
/-- 2^64 -/
abbrev B : Nat := 18446744073709551616
/-- 2^256 -/
abbrev M : Nat := 115792089237316195423570985008687907853269984665640564039457584007913129639936
theorem B_pos : 0 < B := by decide
theorem B4 : B ^ 4 = M := by decide

/-- t is put on at place k: what stays, what is carried -/
theorem acc (v k t : Nat) : st B v k ((dg B v k + t) % B) + (dg B v k + t) / B * B ^ (k + 1) = v + t * B ^ k := by
  have h := st_eq B v k ((dg B v k + t) % B)
  have h2 := Nat.div_add_mod (dg B v k + t) B
  generalize st B v k ((dg B v k + t) % B) = v' at *
  generalize dg B v k = w at *
  generalize (w + t) / B = q at *
  generalize (w + t) % B = r at *
  rw [Nat.pow_succ]
  generalize B ^ k = P at *
  have e : (w + t) * P = q * (P * B) + r * P := by
    rw [← h2, Nat.add_mul]
    congr 1
    rw [Nat.mul_comm B q, Nat.mul_assoc, Nat.mul_comm B P]
  rw [Nat.add_mul] at e
  omega

theorem dec (v k t d c : Nat) (hd : d + t = dg B v k + c * B) : st B v k d + t * B ^ k = v + c * B ^ (k + 1) := by
  have h := st_eq B v k d
  generalize st B v k d = v' at *
  generalize dg B v k = w at *
  rw [Nat.pow_succ]
  generalize B ^ k = P at *
  have e : d * P + t * P = w * P + c * (P * B) := by
    rw [← Nat.add_mul, hd, Nat.add_mul, Nat.mul_assoc, Nat.mul_comm B P]
  omega

theorem add_step {v x y c k : Nat} (h : v + c * B ^ k = x + y % B ^ k) :
    st B v k ((dg B v k + dg B y k + c) % B) + (dg B v k + dg B y k + c) / B * B ^ (k + 1) = x + y % B ^ (k + 1) := by
  have := acc v k (dg B y k + c)
  rw [← Nat.add_assoc] at this
  rw [this, mod_succ, Nat.add_mul]
  omega

theorem sub_step {v x y c k d c' : Nat} (h : v + y % B ^ k = x + c * B ^ k) (hd : d + (dg B y k + c) = dg B v k + c' * B) :
    st B v k d + y % B ^ (k + 1) = x + c' * B ^ (k + 1) := by
  have := dec v k (dg B y k + c) d c' hd
  rw [mod_succ]
  rw [Nat.add_mul] at this
  omega

/-- only what lies at and below place k has changed -/
theorem st_div {b v k z : Nat} (hb : 0 < b) (hz : z < b) : st b v k z / b ^ (k + 1) = v / b ^ (k + 1) := by
  have hp : 0 < b ^ k := Nat.pow_pos hb
  have hr := Nat.mod_lt v hp
  have hr1 : z * b ^ k + v % b ^ k < b ^ (k + 1) := by
    rw [Nat.pow_succ, Nat.mul_comm _ b]
    have : (z + 1) * b ^ k ≤ b * b ^ k := Nat.mul_le_mul_right _ hz
    rw [Nat.add_mul] at this
    omega
  have e1 : st b v k z = b ^ (k + 1) * (v / b ^ (k + 1)) + (z * b ^ k + v % b ^ k) := by unfold st; rw [Nat.mul_comm (b ^ (k + 1))]; omega
  rw [e1, Nat.mul_add_div (Nat.pow_pos hb), Nat.div_eq_of_lt hr1, Nat.add_zero]

theorem div_succ {v x k : Nat} (h : v / B ^ k = x / B ^ k) : v / B ^ (k + 1) = x / B ^ (k + 1) := by
  rw [Nat.pow_succ, ← Nat.div_div_eq_div_mul, h, Nat.div_div_eq_div_mul]

theorem shl_w (w g : Nat) (hw : w < 18446744073709551616) (hg : g < 16) : (w + (15 * w + g)) % 18446744073709551616 = (16 * w) % 18446744073709551616 + g ∧ (w + (15 * w + g)) / 18446744073709551616 = (16 * w) / 18446744073709551616 ∧ (16 * w) % 18446744073709551616 + g < 18446744073709551616 ∧ 16 * w / 18446744073709551616 < 16 := by omega

/-- four bits to the left -/
theorem shl_step {v x d g k : Nat} (h : v + g * B ^ k = x + d + 15 * (x % B ^ k)) (hg : g < 16) (hx : v / B ^ k = x / B ^ k) :
    (16 * dg B v k) % B + g < B ∧ st B v k ((16 * dg B v k) % B + g) + (16 * dg B v k) / B * B ^ (k + 1) = x + d + 15 * (x % B ^ (k + 1)) ∧ (16 * dg B v k) / B < 16
      ∧ st B v k ((16 * dg B v k) % B + g) / B ^ (k + 1) = x / B ^ (k + 1) := by
  have hw : dg B v k < B := dg_lt B_pos
  have hwx : dg B v k = dg B x k := by unfold dg; rw [hx]
  have a := acc v k (15 * dg B v k + g)
  obtain ⟨e1, e2, hlt, h16⟩ := shl_w (dg B v k) g hw hg
  rw [e1, e2] at a
  refine ⟨hlt, ?_, h16, ?_⟩
  · rw [a, mod_succ, Nat.mul_add, Nat.add_mul, hwx]
    have : 15 * dg B x k * B ^ k = 15 * (dg B x k * B ^ k) := Nat.mul_assoc _ _ _
    omega
  · rw [st_div B_pos hlt]; exact div_succ hx
theorem div_sub (N q v1 c : Nat) (hq : N / 7237005577332262213973186563042994240829374041602535252466099000494570602496 = q) (hq2 : q ≤ 16) (h : v1 + q * 7237005577332262213973186563042994240857116359379907606001950938285454250989 % 115792089237316195423570985008687907853269984665640564039457584007913129639936 = N % 115792089237316195423570985008687907853269984665640564039457584007913129639936 + c * 115792089237316195423570985008687907853269984665640564039457584007913129639936) (hv : v1 < 115792089237316195423570985008687907853269984665640564039457584007913129639936) :
    (v1 / 57896044618658097711785492504343953926634992332820282019728792003956564819968 = 0 → v1 = N % 7237005577332262213973186563042994240857116359379907606001950938285454250989) ∧ (v1 / 57896044618658097711785492504343953926634992332820282019728792003956564819968 = 1 → ∀ v2 c2, v2 + c2 * 115792089237316195423570985008687907853269984665640564039457584007913129639936 = v1 + 7237005577332262213973186563042994240857116359379907606001950938285454250989 → v2 < 115792089237316195423570985008687907853269984665640564039457584007913129639936 → v2 = N % 7237005577332262213973186563042994240857116359379907606001950938285454250989) ∧ v1 / 57896044618658097711785492504343953926634992332820282019728792003956564819968 ≤ 1 := by
  have hr := Nat.div_add_mod N 7237005577332262213973186563042994240829374041602535252466099000494570602496
  have hr2 := Nat.mod_lt N (show 7237005577332262213973186563042994240829374041602535252466099000494570602496 > 0 by decide)
  rw [hq] at hr
  generalize N % 7237005577332262213973186563042994240829374041602535252466099000494570602496 = r at *
  have hqc : q = 0 ∨ q = 1 ∨ q = 2 ∨ q = 3 ∨ q = 4 ∨ q = 5 ∨ q = 6 ∨ q = 7 ∨ q = 8 ∨ q = 9 ∨ q = 10 ∨ q = 11 ∨ q = 12 ∨ q = 13 ∨ q = 14 ∨ q = 15 ∨ q = 16 := by omega
  clear hq hq2
  rcases hqc with rfl | rfl | rfl | rfl | rfl | rfl | rfl | rfl | rfl | rfl | rfl | rfl | rfl | rfl | rfl | rfl | rfl <;> simp only [Nat.reduceMul, Nat.reduceMod] at h hr <;> (subst hr; refine ⟨fun h1 => ?_, fun h1 v2 c2 h2 h3 => ?_, ?_⟩ <;> omega)
theorem mul_word (p w c : Nat) (hp : p ≤ 340282366920938463426481119284349108225) (hw : w < 18446744073709551616) (hc : c < 18446744073709551616) :
    p / 18446744073709551616 + (p % 18446744073709551616 + w) / 18446744073709551616 < 18446744073709551616 ∧
    p / 18446744073709551616 + (p % 18446744073709551616 + w) / 18446744073709551616 + ((p % 18446744073709551616 + w) % 18446744073709551616 + c) / 18446744073709551616 = (w + (p + c)) / 18446744073709551616 ∧
    ((p % 18446744073709551616 + w) % 18446744073709551616 + c) % 18446744073709551616 = (w + (p + c)) % 18446744073709551616 ∧
    (w + (p + c)) / 18446744073709551616 < 18446744073709551616 := by omega

theorem mul_le {x y : Nat} (hx : x < B) (hy : y < B) : x * y ≤ 340282366920938463426481119284349108225 :=
  Nat.mul_le_mul (Nat.le_of_lt_succ (n := 18446744073709551615) hx) (Nat.le_of_lt_succ (n := 18446744073709551615) hy)

/-- a step of the inner loop -/
theorem times_step {v c i j S xi y : Nat} (h : v + c * B ^ (i + j) = S + xi * (y % B ^ j) * B ^ i) :
    st B v (i + j) ((dg B v (i + j) + (xi * dg B y j + c)) % B) + (dg B v (i + j) + (xi * dg B y j + c)) / B * B ^ (i + (j + 1)) = S + xi * (y % B ^ (j + 1)) * B ^ i := by
  have a := acc v (i + j) (xi * dg B y j + c)
  rw [← Nat.add_assoc i j 1, a, mod_succ, Nat.add_mul, Nat.mul_add, Nat.add_mul]
  have e : xi * (dg B y j * B ^ j) * B ^ i = xi * dg B y j * B ^ (i + j) := by
    rw [Nat.pow_add, ← Nat.mul_assoc, Nat.mul_assoc, Nat.mul_comm (B ^ j)]
  omega

/-- the carry is laid above -/
theorem times_top {v c i S xi y : Nat} (h : v + c * B ^ (i + 4) = S + xi * (y % B ^ 4) * B ^ i) (hv : v < B ^ (i + 4)) (hy : y < M) :
    st B v (i + 4) c = S + xi * y * B ^ i := by
  have hd : dg B v (i + 4) = 0 := by unfold dg; rw [Nat.div_eq_of_lt hv]; rfl
  have := st_eq B v (i + 4) c
  have e : y % B ^ 4 = y := Nat.mod_eq_of_lt (by rw [B4]; exact hy)
  rw [hd] at this
  rw [e] at h
  omega

theorem times_next (x y z i : Nat) : z + x % B ^ i * y + dg B x i * y * B ^ i = z + x % B ^ (i + 1) * y := by
  rw [mod_succ, Nat.add_mul, Nat.add_assoc, Nat.mul_right_comm]

theorem times_lt {x y z i : Nat} (hy : y < M) (hz : z < M) : z + x % B ^ i * y < B ^ (i + 4) := by
  have h1 : x % B ^ i + 1 ≤ B ^ i := Nat.mod_lt _ (Nat.pow_pos B_pos)
  have h2 : (x % B ^ i + 1) * M ≤ B ^ i * M := Nat.mul_le_mul_right _ h1
  have h3 : x % B ^ i * y ≤ x % B ^ i * M := Nat.mul_le_mul_left _ (Nat.le_of_lt hy)
  rw [Nat.pow_add, B4]
  rw [Nat.add_mul] at h2
  omega
theorem pow_B (k : Nat) : B ^ k = 256 ^ (8 * k) := by
  rw [show B = 256 ^ 8 from by decide, ← Nat.pow_mul]

theorem byte_word (n i : Nat) : dg B n (i / 8) / 2 ^ (i % 8 * 8) % 256 = dg 256 n i := by
  unfold dg
  have hi : i = 8 * (i / 8) + i % 8 := by omega
  have hj : i % 8 < 8 := Nat.mod_lt _ (by decide)
  generalize i / 8 = k at *
  generalize i % 8 = j at *
  subst hi
  rw [pow_B, Nat.pow_add, ← Nat.div_div_eq_div_mul]
  generalize n / 256 ^ (8 * k) = x
  have h8 : j = 0 ∨ j = 1 ∨ j = 2 ∨ j = 3 ∨ j = 4 ∨ j = 5 ∨ j = 6 ∨ j = 7 := by omega
  show x % 18446744073709551616 / 2 ^ (j * 8) % 256 = x / 256 ^ j % 256
  rcases h8 with rfl | rfl | rfl | rfl | rfl | rfl | rfl | rfl <;> simp only [Nat.reducePow, Nat.reduceMul, Nat.div_one] <;> omega

theorem ld_step (n i : Nat) :
    dg B (n % 256 ^ i) (i / 8) < 2 ^ (i % 8 * 8) ∧ dg 256 n i * 2 ^ (i % 8 * 8) + dg B (n % 256 ^ i) (i / 8) < B ∧
    st B (n % 256 ^ i) (i / 8) (dg 256 n i * 2 ^ (i % 8 * 8) + dg B (n % 256 ^ i) (i / 8)) = n % 256 ^ (i + 1) := by
  have hi : i = 8 * (i / 8) + i % 8 := by omega
  have hj : i % 8 < 8 := Nat.mod_lt _ (by decide)
  have hp : (2 : Nat) ^ (i % 8 * 8) = 256 ^ (i % 8) := by
    rw [Nat.mul_comm, Nat.pow_mul]
  rw [hp]
  have hb : dg 256 n i < 256 := dg_lt (by decide)
  have hv : n % 256 ^ i < 256 ^ i := Nat.mod_lt _ (Nat.pow_pos (by decide))
  have hm := mod_succ 256 n i
  generalize hk : i / 8 = k at *
  generalize i % 8 = j at *
  have hpi : 256 ^ i = 256 ^ j * B ^ k := by rw [hi, pow_B, ← Nat.pow_add, Nat.add_comm]
  have hw : dg B (n % 256 ^ i) k < 256 ^ j := by
    refine Nat.lt_of_le_of_lt (Nat.mod_le _ _) (Nat.div_lt_of_lt_mul ?_)
    rw [Nat.mul_comm]; rw [hpi] at hv ⊢; exact hv
  have h1 : dg 256 n i * 256 ^ j + dg B (n % 256 ^ i) k < B := by
    have h2 : (dg 256 n i + 1) * 256 ^ j ≤ 256 * 256 ^ j := Nat.mul_le_mul_right _ hb
    have h3 : 256 * 256 ^ j ≤ 256 ^ 8 := by
      rw [Nat.mul_comm, ← Nat.pow_succ]; exact Nat.pow_le_pow_right (by decide) hj
    have h4 : (256 : Nat) ^ 8 = B := by decide
    rw [h4] at h3
    rw [Nat.add_mul] at h2
    omega
  refine ⟨hw, h1, ?_⟩
  have h5 := st_eq B (n % 256 ^ i) k (dg 256 n i * 256 ^ j + dg B (n % 256 ^ i) k)
  rw [hm, hpi]
  rw [Nat.add_mul, Nat.mul_assoc] at h5
  rw [hpi] at h5
  omega

theorem by_step (n i : Nat) : st 256 (n % 256 ^ i) i (dg 256 n i) = n % 256 ^ (i + 1) := by
  have h := st_eq 256 (n % 256 ^ i) i (dg 256 n i)
  have hd : dg 256 (n % 256 ^ i) i = 0 := by
    unfold dg; rw [Nat.div_eq_of_lt (Nat.mod_lt _ (Nat.pow_pos (by decide)))]
  rw [hd] at h
  rw [mod_succ]
  omega

/-- digits of 4 bits, from the top -/
def hx (low i : Nat) : Nat := low / 16 ^ (63 - i) % 16
theorem hx_word (low i : Nat) (hi : i < 64) : dg B low (3 - i / 16) / 2 ^ (60 - i % 16 * 4) % 16 = hx low i := by
  unfold dg hx
  have e : 63 - i = 16 * (3 - i / 16) + (15 - i % 16) := by omega
  have e2 : 60 - i % 16 * 4 = 4 * (15 - i % 16) := by omega
  have hj : 15 - i % 16 < 16 := by omega
  rw [e, e2]
  generalize 3 - i / 16 = k
  generalize 15 - i % 16 = j at *
  rw [pow_B, show (256 : Nat) = 16 ^ 2 from rfl, ← Nat.pow_mul, show 2 * (8 * k) = 16 * k by omega, Nat.pow_add, ← Nat.div_div_eq_div_mul]
  generalize low / 16 ^ (16 * k) = x
  rw [Nat.pow_mul]
  show x % 18446744073709551616 / 16 ^ j % 16 = x / 16 ^ j % 16
  have h8 : j = 0 ∨ j = 1 ∨ j = 2 ∨ j = 3 ∨ j = 4 ∨ j = 5 ∨ j = 6 ∨ j = 7 ∨ j = 8 ∨ j = 9 ∨ j = 10 ∨ j = 11 ∨ j = 12 ∨ j = 13 ∨ j = 14 ∨ j = 15 := by omega
  rcases h8 with rfl | rfl | rfl | rfl | rfl | rfl | rfl | rfl | rfl | rfl | rfl | rfl | rfl | rfl | rfl | rfl <;> simp only [Nat.reducePow, Nat.div_one] <;> omega

theorem hx_step (L high low i : Nat) (hi : i < 64) :
    (16 * ((high * 16 ^ i + low / 16 ^ (64 - i)) % L) + hx low i) % L = (high * 16 ^ (i + 1) + low / 16 ^ (64 - (i + 1))) % L := by
  rw [Nat.add_mod, Nat.mul_mod, Nat.mod_mod, ← Nat.mul_mod, ← Nat.add_mod]
  congr 1
  unfold hx
  have e : 64 - i = (63 - i) + 1 := by omega
  have e2 : 64 - (i + 1) = 63 - i := by omega
  rw [e, e2, Nat.pow_succ (n := 16) (m := 63 - i), ← Nat.div_div_eq_div_mul, Nat.pow_succ]
  generalize low / 16 ^ (63 - i) = y
  generalize 16 ^ i = z
  rw [Nat.mul_add, ← Nat.mul_assoc high, Nat.mul_comm (high * z) 16]
  omega
end ScalarNum
namespace Go.Proofs.YteijccjdejjbjaaDoor
open Go.RowKit Go.Shelf ScalarNum

def Tryd.lays25_ren : Go.Shelf.Ren := ⟨fun | 25 => 62 | n => n, fun | 22 => 60 | n => n, fun | n => n⟩
theorem Tryd.lays25 : Go.Proofs.Lays7.n25 Tryd.prog Tryd.lays25_ren := {
  mixed := by kernel_rfl
  f25 := Tryd.func62.trans (congrArg some (by kernel_rfl))
  t22 := Tryd.underlying60
  a22 := Tryd.isAgg60
  z22 := Tryd.sizeOf60
  v22 := Tryd.zeroValue60
  i22 := by kernel_rfl }
def Tryd.lays26_ren : Go.Shelf.Ren := ⟨fun | 26 => 70 | n => n, fun | 22 => 60 | n => n, fun | n => n⟩
theorem Tryd.lays26 : Go.Proofs.Lays7.n26 Tryd.prog Tryd.lays26_ren := {
  mixed := by kernel_rfl
  f26 := Tryd.func70.trans (congrArg some (by kernel_rfl))
  t22 := Tryd.underlying60
  a22 := Tryd.isAgg60
  z22 := Tryd.sizeOf60
  v22 := Tryd.zeroValue60
  i22 := by kernel_rfl }
def Tryd.lays264_ren : Go.Shelf.Ren := ⟨fun | 264 => 63 | n => n, fun | 53 => 60 | 46 => 36 | n => n, fun | n => n⟩
theorem Tryd.lays264 : Go.Proofs.Lays.n264 Tryd.prog Tryd.lays264_ren := {
  mixed := by kernel_rfl
  f264 := Tryd.func63.trans (congrArg some (by kernel_rfl))
  t46 := Tryd.underlying36
  a46 := Tryd.isAgg36
  z46 := Tryd.sizeOf36
  v46 := Tryd.zeroValue36
  t53 := Tryd.underlying60
  a53 := Tryd.isAgg60
  z53 := Tryd.sizeOf60
  v53 := Tryd.zeroValue60 }

/-- the sum of two words and a carry -/
theorem add64 (x y c : Nat) (hc : c ≤ 1) (w : World) :
    (callFunc 62 #[.int .u64 (x : Int), .int .u64 (y : Int), .int .u64 (c : Int)]).run Tryd.prog w =
    .ok (.value (.tuple #[.int .u64 (((x + y + c) % 18446744073709551616 : Nat) : Int), .int .u64 (((x + y + c) / 18446744073709551616 : Nat) : Int)])) w :=
  Any7.bits_Add64 Tryd.lays25 x y c (by omega) w

theorem sub64 (x y b : Nat) (hb : b ≤ 1) (w : World) :
    (callFunc 70 #[.int .u64 (x : Int), .int .u64 (y : Int), .int .u64 (b : Int)]).run Tryd.prog w =
    .ok (.value (.tuple #[.int .u64 (((x + 18446744073709551616 - y - b) % 18446744073709551616 : Nat) : Int), .int .u64 ((if x < y + b then 1 else 0 : Nat) : Int)])) w :=
  Any7.bits_Sub64 Tryd.lays26 x y b (by omega) w

/-- the product of two words -/
theorem mul64 (x y : Nat) (hx : x < B) (hy : y < B) (w : World) :
    Calls Tryd.prog 63 #[.int .u64 (x : Int), .int .u64 (y : Int)] w fun e w' =>
      e = .returned (.tuple #[.int .u64 ((x * y / 18446744073709551616 : Nat) : Int), .int .u64 ((x * y % 18446744073709551616 : Nat) : Int)]) ∧ w' = w :=
  Any.bits_Mul64 Tryd.lays264 x y hx hy w
end Go.Proofs.YteijccjdejjbjaaDoor
namespace Go.Proofs.YteijccjdejjbjaaDoor
open Go.RowKit Go.Shelf ScalarNum

theorem grown_block {W w' : World} (h : Grown W w') {n : Nat} (hn : n < W.heap.size) : w'.heap[n]? = W.heap[n]? := by
  have h3 := h.1.2.2 n hn
  cases e : W.heap[n]? with
  | none => rw [e] at h3; cases e' : w'.heap[n]? with
    | none => rfl
    | some o => rw [e'] at h3; exact h3
  | some o =>
    rw [e] at h3
    cases e' : w'.heap[n]? with
    | none => rw [e'] at h3; cases o <;> exact h3
    | some o' =>
      rw [e'] at h3
      cases o <;> cases o' <;> simp_all
      exact Array.ext_getElem? h3.2.2.2

theorem grown_cell {W w' : World} (h : Grown W w') (n i : Nat) (hn : n < W.heap.size) : w'.cell? ⟨n, i, none⟩ = W.cell? ⟨n, i, none⟩ := by
  have := grown_block h hn
  simp [World.cell?, this]

theorem grown_trans {a b c : World} (h1 : Grown a b) (h2 : Grown b c) : Grown a c :=
  ⟨World.keptBut_trans h1.1 h2.1, fun x => (h2.2.1 x).trans (h1.2.1 x), Nat.le_trans h1.2.2 h2.2.2⟩

theorem grown_drewN {W w' : World} (h : Grown W w') (n : Nat) : Grown W (w'.drewN n) := h

theorem there_grown {w w' : World} {b o n : Nat} (h : w.there b o n) (hg : Grown w w') : w'.there b o n := by
  intro j hj
  obtain ⟨h1, h2⟩ := h j hj
  obtain ⟨v, hv⟩ := Option.isSome_iff_exists.1 h1
  have hb : b < w.heap.size := block_lt_of_cell hv
  exact ⟨by rw [grown_cell hg _ _ hb]; exact h1, by rw [hg.2.1]; exact h2⟩

theorem rangeAt_grown {w w' : World} {b o : Nat} {cs : List Value} (h : w.rangeAt b o cs) (hg : Grown w w') : w'.rangeAt b o cs := by
  intro j v hv
  have h1 := h j v hv
  have hb : b < w.heap.size := block_lt_of_cell h1
  rw [grown_cell hg _ _ hb]; exact h1

/-- what has grown, and block b may have changed -/
def GB (b : Nat) (W w' : World) : Prop := W.keptBut w' (fun m => ∃ j, m = .cell b j) ∧ (∀ a, w'.frozen? a = W.frozen? a) ∧ W.heap.size ≤ w'.heap.size

theorem GB.refl (b : Nat) (w : World) : GB b w w := ⟨World.keptBut_refl _ _, fun _ => rfl, Nat.le_refl _⟩
theorem GB.trans {b : Nat} {w1 w2 w3 : World} (h1 : GB b w1 w2) (h2 : GB b w2 w3) : GB b w1 w3 :=
  ⟨World.keptBut_trans h1.1 h2.1, fun x => (h2.2.1 x).trans (h1.2.1 x), Nat.le_trans h1.2.2 h2.2.2⟩
theorem GB.of {b : Nat} {w1 w2 : World} (h : Grown w1 w2) : GB b w1 w2 := ⟨h.frame _, h.2.1, h.2.2⟩
theorem GB.drewN {b : Nat} {w1 w2 : World} (h : GB b w1 w2) (n : Nat) : GB b w1 (w2.drewN n) := h
theorem GB.setCell {b o : Nat} {w1 w2 : World} (h : GB b w1 w2) (v : Value) : GB b w1 (w2.setCell ⟨b, o, none⟩ v) := by
  refine GB.trans h ⟨?_, fun x => World.frozen?_setCell _ _ _ _, by simp [World.setCell]⟩
  have := World.keptBut_setCells b (may := fun m => ∃ j, m = .cell b j) [v] o w2 (fun j _ => ⟨_, rfl⟩)
  exact this
theorem GB.setCells {b o : Nat} (vs : List Value) {w1 w2 : World} (h : GB b w1 w2) : GB b w1 (w2.setCells b o vs) := by
  induction vs generalizing o w2 with
  | nil => exact h
  | cons v r ih => exact ih (o := o + 1) (GB.setCell h v)

theorem GB.block {b : Nat} {W w' : World} (h : GB b W w') {n : Nat} (hn : n < W.heap.size) (hb : n ≠ b) : w'.heap[n]? = W.heap[n]? := by
  have h3 := h.1.2.2 n hn
  cases e : W.heap[n]? with
  | none => rw [e] at h3; cases e' : w'.heap[n]? with
    | none => rfl
    | some o => rw [e'] at h3; exact h3
  | some o =>
    rw [e] at h3
    cases e' : w'.heap[n]? with
    | none => rw [e'] at h3; cases o <;> exact h3
    | some o' =>
      rw [e'] at h3
      cases o <;> cases o' <;> simp_all
      exact Array.ext_getElem? h3.2.2.2
theorem GB.cell {b : Nat} {W w' : World} (h : GB b W w') (n i : Nat) (hn : n < W.heap.size) (hb : n ≠ b) : w'.cell? ⟨n, i, none⟩ = W.cell? ⟨n, i, none⟩ := by
  have := h.block hn hb
  simp [World.cell?, this]
theorem GB.range {w w' : World} {b' b o : Nat} {cs : List Value} (hg : GB b' w w') (h : w.rangeAt b o cs) (hb : b ≠ b') : w'.rangeAt b o cs := by
  intro j v hv
  have h1 := h j v hv
  rw [hg.cell _ _ (block_lt_of_cell h1) hb]; exact h1
theorem GB.there {w w' : World} {b' b o n : Nat} (hg : GB b' w w') (h : w.there b o n) (hb : b ≠ b') : w'.there b o n := by
  intro j hj
  obtain ⟨h1, h2⟩ := h j hj
  obtain ⟨v, hv⟩ := Option.isSome_iff_exists.1 h1
  exact ⟨by rw [hg.cell _ _ (block_lt_of_cell hv) hb]; exact h1, by rw [hg.2.1]; exact h2⟩
/-- a block of one's own -/
theorem GB.own {b : Nat} {W0 W w' : World} (h0 : Grown W0 W) (hb : W0.heap.size ≤ b) (h : GB b W w') : Grown W0 w' := by
  refine ⟨⟨h.1.1.trans h0.1.1, h.1.2.1.trans h0.1.2.1, fun i hi => ?_⟩, fun a => (h.2.1 a).trans (h0.2.1 a), Nat.le_trans h0.2.2 h.2.2⟩
  rw [h.block (Nat.lt_of_lt_of_le hi h0.2.2) (by omega)]
  exact h0.1.2.2 i hi
theorem GB.mono {b : Nat} {w0 w1 w2 : World} (h0 : Grown w0 w1) (h : GB b w1 w2) : GB b w0 w2 := GB.trans (GB.of h0) h

theorem range_lt {w : World} {b o : Nat} {cs : List Value} (h : w.rangeAt b o cs) (hc : 0 < cs.length) : b < w.heap.size :=
  block_lt_of_cell (h 0 cs[0] (by simp))
theorem there_lt {w : World} {b o n : Nat} (h : w.there b o n) (hn : 0 < n) : b < w.heap.size := by
  obtain ⟨v, hv⟩ := Option.isSome_iff_exists.1 (h 0 hn).1
  exact block_lt_of_cell hv

theorem there_setCell {w : World} {b o n : Nat} (h : w.there b o n) (a : Addr) (v : Value) : (w.setCell a v).there b o n := by
  intro j hj
  obtain ⟨h1, h2⟩ := h j hj
  obtain ⟨u, hu⟩ := Option.isSome_iff_exists.1 h1
  obtain ⟨v', hv'⟩ := cell?_setCell_some (p := a) (x := v) hu
  exact ⟨by rw [hv']; rfl, (World.frozen?_setCell _ _ _ _).trans h2⟩
theorem there_alloc_new (w : World) (t : TypeId) (c : Array Value) (n : Nat) (hn : n ≤ c.size) : (w.alloc (.cells c t)).there w.heap.size 0 n := by
  intro j hj
  have e : (w.alloc (.cells c t)).heap[w.heap.size]? = some (.cells c t) := heap_alloc_new w _
  refine ⟨?_, ?_⟩
  · rw [cell_of_row _ _ _ _ _ _ e]
    simp; omega
  · exact frozen_of_row _ _ _ _ _ e
theorem rangeAt_alloc_new (w : World) (t : TypeId) (cs : List Value) : (w.alloc (.cells cs.toArray t)).rangeAt w.heap.size 0 cs := by
  intro j v hv
  have e : (w.alloc (.cells cs.toArray t)).heap[w.heap.size]? = some (.cells cs.toArray t) := heap_alloc_new w _
  rw [cell_of_row _ _ _ _ _ _ e, Nat.zero_add]
  simpa using hv

/-- one cell of a range is put -/
theorem range_set {w : World} {b : Nat} {cs : List Value} (h : w.rangeAt b 0 cs) (k : Nat) (hk : k < cs.length) (v : Value) :
    (w.setCell ⟨b, k, none⟩ v).rangeAt b 0 (cs.set k v) := by
  intro j u hj
  rw [List.getElem?_set] at hj
  by_cases e : k = j
  · subst e
    rw [if_pos rfl, if_pos hk] at hj
    cases hj
    have h1 := h k cs[k] (by simp [hk])
    rw [Nat.zero_add] at h1 ⊢
    exact World.cell?_setCell_same' _ _ _ (by rw [h1]; rfl)
  · rw [if_neg e] at hj
    rw [← h j u hj]
    exact World.cell?_setCell_other _ _ _ _ (by intro e2; injection e2 with e3 e4; omega)
theorem range_put {w : World} {b : Nat} {cs : List Value} (h : w.rangeAt b 0 cs) (b2 k : Nat) (hb : b ≠ b2) (v : Value) :
    (w.setCell ⟨b2, k, none⟩ v).rangeAt b 0 cs := by
  intro j u hj
  rw [← h j u hj]
  exact World.cell?_setCell_other _ _ _ _ (by intro e2; injection e2 with e3 e4; omega)

/-- words and bytes of a number, as cells -/
def wl (n v : Nat) : List Value := (ds B n v).map fun z : Nat => .int .u64 (z : Int)
def yl (n v : Nat) : List Value := (ds 256 n v).map fun z : Nat => .int .u8 (z : Int)
theorem wl_length (n v : Nat) : (wl n v).length = n := by simp [wl, ds_length]
theorem yl_length (n v : Nat) : (yl n v).length = n := by simp [yl, ds_length]
theorem wl_get (n v i : Nat) (h : i < n) : (wl n v)[i]? = some (.int .u64 ((dg B v i : Nat) : Int)) := by simp [wl, ds_get _ _ _ _ h]
theorem yl_get (n v i : Nat) (h : i < n) : (yl n v)[i]? = some (.int .u8 ((dg 256 v i : Nat) : Int)) := by simp [yl, ds_get _ _ _ _ h]
theorem wl_one (n v : Nat) : ∀ u ∈ wl n v, u.oneCell' = true := by
  intro u hu
  simp only [wl, List.mem_map] at hu
  obtain ⟨i, _, rfl⟩ := hu
  rfl
theorem yl_one (n v : Nat) : ∀ u ∈ yl n v, u.oneCell' = true := by
  intro u hu
  simp only [yl, List.mem_map] at hu
  obtain ⟨i, _, rfl⟩ := hu
  rfl
theorem wl_set {n v k z : Nat} (hz : z < B) (hk : k < n) : (wl n v).set k (.int .u64 (z : Int)) = wl n (st B v k z) := by
  rw [wl, wl, ← ds_set B_pos hz hk, List.map_set]
theorem yl_set {n v k z : Nat} (hz : z < 256) (hk : k < n) : (yl n v).set k (.int .u8 (z : Int)) = yl n (st 256 v k z) := by
  rw [yl, yl, ← ds_set (by decide) hz hk, List.map_set]
theorem wrange_set {w : World} {b n v : Nat} (h : w.rangeAt b 0 (wl n v)) {k z : Nat} (hz : z < B) (hk : k < n) : (w.setCell ⟨b, k, none⟩ (.int .u64 (z : Int))).rangeAt b 0 (wl n (st B v k z)) := by
  rw [← wl_set hz hk]; exact range_set h k (by rw [wl_length]; exact hk) _
theorem yrange_set {w : World} {b n v : Nat} (h : w.rangeAt b 0 (yl n v)) {k z : Nat} (hz : z < 256) (hk : k < n) : (w.setCell ⟨b, k, none⟩ (.int .u8 (z : Int))).rangeAt b 0 (yl n (st 256 v k z)) := by
  rw [← yl_set hz hk]; exact range_set h k (by rw [yl_length]; exact hk) _
end Go.Proofs.YteijccjdejjbjaaDoor
namespace Go.Proofs.YteijccjdejjbjaaDoor
open Go.RowKit Go.Shelf ScalarNum

theorem Hid.of {q : Prop} (h : q) : Hid q := h

/-- numbers as values -/
def wv (k n : Nat) : Value := .agg (wl k n).toArray
def yv (k n : Nat) : Value := .agg (yl k n).toArray

theorem info32 : (Tryd.prog.info? 23).map (·.size) = some 32 := by kernel_rfl
theorem infoN : (Tryd.prog.info? 62).map (·.size) = some 4 := by kernel_rfl

theorem wl4_zero : wl 4 0 = [.int .u64 0, .int .u64 0, .int .u64 0, .int .u64 0] := by rfl

theorem wpList_loadN {ops : Array Oper} {rest : List Oper} {op : Oper} {a : Act} {w : World} {Q : Exit → Act → World → Prop} (hgd : op.guard = none) (x : Operand) (ho : op.op = .load 62 x)
    (b : Nat) (hx : a.eval x = .pointer (some ⟨b, 0, none⟩)) (n : Nat) (hc : w.rangeAt b 0 (wl 4 n))
    (h : wpList Tryd.prog ops Q rest (a.put op.dst (wv 4 n)) w) : wpList Tryd.prog ops Q (op :: rest) a w :=
  wpList_load_mid hgd 62 x ho b 0 hx (wl 4 n) _ hc Tryd.underlying62 rfl (by rw [wl_length]; exact infoN) h
theorem wpList_storeN {ops : Array Oper} {rest : List Oper} {op : Oper} {a : Act} {w : World} {Q : Exit → Act → World → Prop} (hgd : op.guard = none) (x y : Operand) (ho : op.op = .store 62 x y)
    (b n : Nat) (hx : a.eval x = .pointer (some ⟨b, 0, none⟩)) (hy : a.eval y = wv 4 n) (ht : w.there b 0 4)
    (h : wpList Tryd.prog ops Q rest (a.put op.dst undef) (w.setCells b 0 (wl 4 n))) : wpList Tryd.prog ops Q (op :: rest) a w :=
  wpList_store_mid hgd 62 x y ho b 0 (wl 4 n).toArray hx hy (by rw [show (wl 4 n).toArray.size = 4 from by rw [List.size_toArray, wl_length]]; exact ht) (by rw [List.size_toArray, wl_length]; exact infoN) (all_oneCell_toArray (wl_one 4 n)) h
theorem wpList_load32 {ops : Array Oper} {rest : List Oper} {op : Oper} {a : Act} {w : World} {Q : Exit → Act → World → Prop} (hgd : op.guard = none) (x : Operand) (ho : op.op = .load 23 x)
    (b : Nat) (hx : a.eval x = .pointer (some ⟨b, 0, none⟩)) (n : Nat) (hc : w.rangeAt b 0 (yl 32 n))
    (h : wpList Tryd.prog ops Q rest (a.put op.dst (yv 32 n)) w) : wpList Tryd.prog ops Q (op :: rest) a w :=
  wpList_load_mid hgd 23 x ho b 0 hx (yl 32 n) _ hc Tryd.underlying23 rfl (by rw [yl_length]; exact info32) h
theorem wpList_store32 {ops : Array Oper} {rest : List Oper} {op : Oper} {a : Act} {w : World} {Q : Exit → Act → World → Prop} (hgd : op.guard = none) (x y : Operand) (ho : op.op = .store 23 x y)
    (b n : Nat) (hx : a.eval x = .pointer (some ⟨b, 0, none⟩)) (hy : a.eval y = yv 32 n) (ht : w.there b 0 32)
    (h : wpList Tryd.prog ops Q rest (a.put op.dst undef) (w.setCells b 0 (yl 32 n))) : wpList Tryd.prog ops Q (op :: rest) a w :=
  wpList_store_mid hgd 23 x y ho b 0 (yl 32 n).toArray hx hy (by rw [show (yl 32 n).toArray.size = 32 from by rw [List.size_toArray, yl_length]]; exact ht) (by rw [List.size_toArray, yl_length]; exact info32) (all_oneCell_toArray (yl_one 32 n)) h
theorem result32 {fn : Func} {q : Tmp} (h : fn.results = #[.cell q 23]) (tmps : Array Value) (w : World) (b n : Nat)
    (hp : tmps.getD q undef = .pointer (some ⟨b, 0, none⟩)) (hc : w.rangeAt b 0 (yl 32 n)) : (results fn tmps).run Tryd.prog w = .ok (yv 32 n) w := by
  have hp' : tmps[q]?.getD undef = .pointer (some ⟨b, 0, none⟩) := by simpa using hp
  simp [results, h, hp', asAddr, run_loadVar_mid w b 0 23 (yl 32 n) _ hc Tryd.underlying23 rfl (by rw [yl_length]; exact info32), yv]
theorem resultN {fn : Func} {q : Tmp} (h : fn.results = #[.cell q 62]) (tmps : Array Value) (w : World) (b n : Nat)
    (hp : tmps.getD q undef = .pointer (some ⟨b, 0, none⟩)) (hc : w.rangeAt b 0 (wl 4 n)) : (results fn tmps).run Tryd.prog w = .ok (wv 4 n) w := by
  have hp' : tmps[q]?.getD undef = .pointer (some ⟨b, 0, none⟩) := by simpa using hp
  simp [results, h, hp', asAddr, run_loadVar_mid w b 0 62 (wl 4 n) _ hc Tryd.underlying62 rfl (by rw [wl_length]; exact infoN), wv]
theorem grown_setCells {W : World} {b : Nat} (hb : W.heap.size ≤ b) : ∀ (vs : List Value) (o : Nat) {w' : World}, Grown W w' → Grown W (w'.setCells b o vs)
  | [], _, _, h => h
  | v :: r, o, _, h => grown_setCells hb r (o + 1) (Grown.setCell h hb v)

theorem or_nat (a b k : Nat) (ha : a < 2 ^ k) (hb : b * 2 ^ k + a < B) : bits .or .u64 (a : Int) (IntKind.u64.wrap ((b : Int) * 2 ^ k)) = ((b * 2 ^ k + a : Nat) : Int) := by
  have e : ((b : Int) * 2 ^ k) = ((b * 2 ^ k : Nat) : Int) := by simp
  have h1 : b * 2 ^ k < 18446744073709551616 := Nat.lt_of_le_of_lt (Nat.le_add_right _ _) hb
  have h2 : a < 18446744073709551616 := Nat.lt_of_le_of_lt (Nat.le_add_left _ _) hb
  rw [e, IntKind.wrap_u64, show ((b * 2 ^ k : Nat) : Int) % 18446744073709551616 = ((b * 2 ^ k : Nat) : Int) by omega]
  rw [bits_or_u64_nat a (b * 2 ^ k) (by omega) (by omega)]
  have h := Nat.two_pow_add_eq_or_of_lt ha b
  rw [Nat.or_comm, Nat.mul_comm b, ← h]

structure LX (w0 : World) (n i : Nat) (wr : World) : Prop where
  rb : wr.rangeAt w0.heap.size 0 (yl 32 n)
  tr : wr.there (w0.heap.size + 1) 0 4
  rx : wr.rangeAt (w0.heap.size + 1 + 1) 0 (wl 4 (n % 256 ^ i))
  tx : wr.there (w0.heap.size + 1 + 1) 0 4
  gw : Grown w0 wr

set_option maxRecDepth 100000 in
set_option maxHeartbeats 4000000 in
theorem load_num (n : Nat) (hn : n < M) (w : World) : Calls Tryd.prog 39 #[yv 32 n] w fun e w' => e = .returned (wv 4 n) ∧ Grown w w' := by
  rw [yv]
  go_enter Tryd.func39, Tryd.ntmps39
  go_wp2
  have h0 : LX w n 0 (((w.alloc (Obj.cells (yl 32 n).toArray 23)).alloc (Obj.cells #[Value.int IntKind.u64 0, Value.int IntKind.u64 0, Value.int IntKind.u64 0, Value.int IntKind.u64 0] 62)).alloc (Obj.cells #[Value.int IntKind.u64 0, Value.int IntKind.u64 0, Value.int IntKind.u64 0, Value.int IntKind.u64 0] 62)) := by
    have z : (#[Value.int IntKind.u64 0, Value.int IntKind.u64 0, Value.int IntKind.u64 0, Value.int IntKind.u64 0] : Array Value) = (wl 4 (n % 256 ^ 0)).toArray := by
      rw [Nat.pow_zero, Nat.mod_one, wl4_zero]
    rw [z]
    have g1 : ∀ (w : World) (t : TypeId) (a : Array Value), Grown w (w.alloc (.cells a t)) := fun w t a => Grown.alloc (Grown.refl _) _ _
    have s1 : (w.alloc (.cells (yl 32 n).toArray 23)).heap.size = w.heap.size + 1 := by simp
    have b1 := rangeAt_alloc_new w 23 (yl 32 n)
    generalize hV1 : w.alloc (.cells (yl 32 n).toArray 23) = V1 at *
    have gV1 : Grown w V1 := hV1 ▸ g1 _ _ _
    have s2 : (V1.alloc (.cells (wl 4 (n % 256 ^ 0)).toArray 62)).heap.size = w.heap.size + 1 + 1 := by simp [s1]
    have b2 := there_alloc_new V1 62 (wl 4 (n % 256 ^ 0)).toArray 4 (by rw [List.size_toArray, wl_length]; exact Nat.le_refl _)
    rw [s1] at b2
    generalize hV2 : V1.alloc (.cells (wl 4 (n % 256 ^ 0)).toArray 62) = V2 at *
    have gV2 : Grown V1 V2 := hV2 ▸ g1 _ _ _
    have b3 := rangeAt_alloc_new V2 62 (wl 4 (n % 256 ^ 0))
    have b4 := there_alloc_new V2 62 (wl 4 (n % 256 ^ 0)).toArray 4 (by rw [List.size_toArray, wl_length]; exact Nat.le_refl _)
    rw [s2] at b3 b4
    exact ⟨rangeAt_grown (rangeAt_grown b1 gV2) (g1 _ _ _), there_grown b2 (g1 _ _ _), b3, b4, grown_trans (grown_trans gV1 gV2) (g1 _ _ _)⟩
  generalize (((w.alloc (Obj.cells (yl 32 n).toArray 23)).alloc (Obj.cells #[Value.int IntKind.u64 0, Value.int IntKind.u64 0, Value.int IntKind.u64 0, Value.int IntKind.u64 0] 62)).alloc (Obj.cells #[Value.int IntKind.u64 0, Value.int IntKind.u64 0, Value.int IntKind.u64 0, Value.int IntKind.u64 0] 62)) = W0 at *
  go_loopw [5] (fun v5 wr => ∃ i : Nat, v5 = .int .i64 (i : Int) ∧ i ≤ 32 ∧ LX w n i wr) (fun v5 _ => 32 - (intOf v5).toNat)
  case atStart => exact ⟨0, rfl, by decide, h0⟩
  case round =>
    obtain ⟨i, rfl, hi, hL⟩ := hrel
    clear h0
    obtain ⟨rb, tr, rx, tx, gw⟩ := hL
    by_cases hlt : i < 32
    · have c1 : wr.cell? ⟨w.heap.size, i, none⟩ = some (.int .u8 (dg 256 n i : Nat)) := by
        have := rb i _ (yl_get 32 n i hlt); rwa [Nat.zero_add] at this
      have c2 : wr.cell? ⟨w.heap.size + 1 + 1, i / 8, none⟩ = some (.int .u64 (dg B (n % 256 ^ i) (i / 8) : Nat)) := by
        have := rx (i / 8) _ (wl_get 4 _ (i / 8) (by omega)); rwa [Nat.zero_add] at this
      have c3 : wr.frozen? ⟨w.heap.size + 1 + 1, i / 8, none⟩ = false := by
        have := (tx (i / 8) (by omega)).2; rwa [Nat.zero_add] at this
      obtain ⟨l1, l2, l3⟩ := ld_step n i
      have hb0 : dg 256 n i < 256 := dg_lt (by decide)
      generalize dg 256 n i = bt at *
      generalize dg B (n % 256 ^ i) (i / 8) = wd at *
      have b1 : (i : Int) < 32 := by omega
      have H1 := Hid.of l1
      have H2 := Hid.of l2
      have H3 := Hid.of l3
      have H4 := Hid.of rx
      have H5 := Hid.of tx
      have H6 := Hid.of rb
      have H7 := Hid.of tr
      have H8 := Hid.of gw
      clear l1 l2 l3 rx tx rb tr gw
      go_wp2
      go_region
      rw [or_nat _ _ _ H1.out H2.out]
      go_wp2
      go_roundw
      case rel =>
        refine ⟨i + 1, by go_num, by omega, ?_⟩
        have r1 := wrange_set H4.out H2.out (show i / 8 < 4 by omega)
        rw [H3.out] at r1
        exact ⟨range_put H6.out _ _ (by omega) _, there_setCell H7.out _ _, r1, there_setCell H5.out _ _, Grown.setCell H8.out (by show _ ≤ w.heap.size + 1 + 1; omega) _⟩
      case measure => simp [intOf]; omega
    · have hi32 : i = 32 := by omega
      subst hi32
      have e32 : n % 256 ^ 32 = n := Nat.mod_eq_of_lt (by rw [show (256 : Nat) ^ 32 = M from by decide]; exact hn)
      rw [e32] at rx
      have H4 := Hid.of rx
      have H7 := Hid.of tr
      have H8 := Hid.of gw
      clear rb tr rx tx gw hi hlt e32
      go_wp2_with (with_reducible show wpList _ _ _ ({ dst := _, op := Op.load 62 _, type := _, pos := _, after := _, guard := _ } :: _) _ _; refine Shut.out ?_)
      show wpList _ _ _ _ _ _
      refine wpList_loadN rfl _ rfl (w.heap.size + 1 + 1) rfl n H4.out ?_
      simp only [Act.put, List.setIfInBounds_toArray, List.set_cons_zero, List.set_cons_succ]
      refine wpList_storeN rfl _ _ rfl (w.heap.size + 1) n rfl rfl H7.out ?_
      simp only [Act.put]
      apply wpList_nil
      repeat go_step
      refine bodyPost_ret (v := wv 4 n) (resultN Tryd.results39 _ _ (w.heap.size + 1) _ ?hp (World.rangeAt_setCells_same _ _ _ _ (by rw [wl_length]; exact H7.out))) ?hd ?_
      case hp => rfl
      case hd => rfl
      exact ⟨rfl, grown_setCells (by omega) _ _ H8.out⟩
end Go.Proofs.YteijccjdejjbjaaDoor
namespace Go.Proofs.YteijccjdejjbjaaDoor
open Go.RowKit Go.Shelf ScalarNum

theorem sum_carry {a b c : Nat} (ha : a < B) (hb : b < B) (hc : c ≤ 1) : (a + b + c) / B ≤ 1 := by
  have h : ∀ a b c : Nat, a < 18446744073709551616 → b < 18446744073709551616 → c ≤ 1 → (a + b + c) / 18446744073709551616 ≤ 1 := by omega
  exact h a b c ha hb hc

structure AX (w0 : World) (b x y v c k : Nat) (wr : World) : Prop where
  rx : wr.rangeAt b 0 (wl 4 v)
  tx : wr.there b 0 4
  ry : wr.rangeAt w0.heap.size 0 (wl 4 y)
  eq : v + c * B ^ k = x + y % B ^ k
  vM : v < M
  c1 : c ≤ 1
  gw : GB b w0 wr

set_option maxRecDepth 100000 in
set_option maxHeartbeats 4000000 in
theorem add_num (b x y : Nat) (hx : x < M) (hy : y < M) (w : World) (hr : w.rangeAt b 0 (wl 4 x)) (ht : w.there b 0 4) :
    Calls Tryd.prog 44 #[.pointer (some ⟨b, 0, none⟩), wv 4 y] w fun e w' => e = .returned (.int .u64 (((x + y) / M : Nat) : Int)) ∧ GB b w w' ∧ w'.rangeAt b 0 (wl 4 ((x + y) % M)) ∧ w'.there b 0 4 := by
  have hbs : b < w.heap.size := there_lt ht (by decide)
  rw [wv]
  go_enter Tryd.func44, Tryd.ntmps44
  go_wp2
  have g0 : Grown w (w.alloc (.cells (wl 4 y).toArray 62)) := Grown.alloc (Grown.refl _) _ _
  have h0 : AX w b x y x 0 0 (w.alloc (.cells (wl 4 y).toArray 62)) :=
    ⟨rangeAt_grown hr g0, there_grown ht g0, rangeAt_alloc_new w 62 (wl 4 y), by rw [Nat.zero_mul, Nat.pow_zero, Nat.mod_one], hx, by decide, GB.of g0⟩
  generalize (w.alloc (.cells (wl 4 y).toArray 62)) = W0 at *
  clear g0 hr ht
  go_loopw [4, 6] (fun v4 v6 wr => ∃ k v c : Nat, v6 = .int .i64 (k : Int) ∧ v4 = .int .u64 (c : Int) ∧ k ≤ 4 ∧ AX w b x y v c k wr) (fun _ v6 _ => 4 - (intOf v6).toNat)
  case atStart => exact ⟨0, x, 0, rfl, rfl, by decide, h0⟩
  case round =>
    obtain ⟨k, v, c, rfl, rfl, hk, hA⟩ := hrel
    clear h0
    obtain ⟨rx, tx, ry, eq, vM, c1, gw⟩ := hA
    by_cases hlt : k < 4
    · have d1 : wr.cell? ⟨b, k, none⟩ = some (.int .u64 (dg B v k : Nat)) := by
        have := rx k _ (wl_get 4 _ k hlt); rwa [Nat.zero_add] at this
      have d2 : wr.cell? ⟨w.heap.size, k, none⟩ = some (.int .u64 (dg B y k : Nat)) := by
        have := ry k _ (wl_get 4 _ k hlt); rwa [Nat.zero_add] at this
      have d3 : wr.frozen? ⟨b, k, none⟩ = false := by
        have := (tx k hlt).2; rwa [Nat.zero_add] at this
      have l1 := add_step eq
      have hw1 : dg B v k < B := dg_lt B_pos
      have hw2 : dg B y k < B := dg_lt B_pos
      have hs : (dg B v k + dg B y k + c) % B < B := Nat.mod_lt _ B_pos
      have hq : (dg B v k + dg B y k + c) / B ≤ 1 := sum_carry hw1 hw2 c1
      have hst := st_lt (n := 4) B_pos hs hlt (by rw [B4]; exact vM)
      have hcall : ∀ w, (callFunc 62 #[.int .u64 (dg B v k : Nat), .int .u64 (dg B y k : Nat), .int .u64 (c : Int)]).run Tryd.prog w = .ok (.value (.tuple #[.int .u64 (((dg B v k + dg B y k + c) % B : Nat) : Int), .int .u64 (((dg B v k + dg B y k + c) / B : Nat) : Int)])) w := fun w => add64 (dg B v k) (dg B y k) c c1 w
      generalize (dg B v k + dg B y k + c) % B = rr at *
      generalize (dg B v k + dg B y k + c) / B = qq at *
      generalize dg B y k = yd at *
      generalize dg B v k = vd at *
      have b1 : (k : Int) < 4 := by omega
      have H1 := Hid.of l1
      have H2 := Hid.of hs
      have H3 := Hid.of hq
      have H4 := Hid.of rx
      have H5 := Hid.of tx
      have H6 := Hid.of ry
      have H7 := Hid.of hst
      have H8 := Hid.of gw
      clear l1 hs hq rx tx ry hst gw eq vM c1 hw1 hw2
      go_wp2
      go_region
      go_wp2
      go_roundw
      case rel =>
        refine ⟨k + 1, st B v k rr, qq, by go_num, rfl, by omega, ?_⟩
        exact ⟨wrange_set H4.out H2.out hlt, there_setCell H5.out _ _, range_put H6.out _ _ (by omega) _, H1.out, by rw [← B4]; exact H7.out, H3.out, GB.drewN (GB.setCell H8.out _) 1⟩
      case measure => simp [intOf]; omega
    · have hk4 : k = 4 := by omega
      subst hk4
      rw [B4, Nat.mod_eq_of_lt hy] at eq
      have e1 : (x + y) % M = v := by rw [← eq, Nat.add_mul_mod_self_right, Nat.mod_eq_of_lt vM]
      have e2 : (x + y) / M = c := by rw [← eq, Nat.add_mul_div_right _ _ (by decide), Nat.div_eq_of_lt vM, Nat.zero_add]
      have H := Hid.of (And.intro e1 (And.intro e2 (And.intro gw (And.intro rx tx))))
      clear rx tx ry eq vM c1 gw e1 e2 hk hlt
      go_wp2
      go_ret
      obtain ⟨e1, e2, H⟩ := H.out
      rw [e1, e2]
      exact ⟨rfl, H⟩
end Go.Proofs.YteijccjdejjbjaaDoor
namespace Go.Proofs.YteijccjdejjbjaaDoor
open Go.RowKit Go.Shelf ScalarNum

theorem sub_borrow {a b c : Nat} (ha : a < B) (hb : b < B) (hc : c ≤ 1) : (a + B - b - c) % B + (b + c) = a + (if a < b + c then 1 else 0) * B := by
  have h : ∀ a b c : Nat, a < 18446744073709551616 → b < 18446744073709551616 → c ≤ 1 → (a + 18446744073709551616 - b - c) % 18446744073709551616 + (b + c) = a + (if a < b + c then 1 else 0) * 18446744073709551616 := by
    intro a b c h1 h2 h3
    split <;> omega
  exact h a b c ha hb hc

structure SX (w0 : World) (b x y v c k : Nat) (wr : World) : Prop where
  rx : wr.rangeAt b 0 (wl 4 v)
  tx : wr.there b 0 4
  ry : wr.rangeAt w0.heap.size 0 (wl 4 y)
  eq : v + y % B ^ k = x + c * B ^ k
  vM : v < M
  c1 : c ≤ 1
  gw : GB b w0 wr

set_option maxRecDepth 100000 in
set_option maxHeartbeats 4000000 in
theorem sub_num (b x y : Nat) (hx : x < M) (hy : y < M) (w : World) (hr : w.rangeAt b 0 (wl 4 x)) (ht : w.there b 0 4) :
    Calls Tryd.prog 66 #[.pointer (some ⟨b, 0, none⟩), wv 4 y] w fun e w' => e = .returned (.tuple #[]) ∧ GB b w w' ∧ (∃ v c, w'.rangeAt b 0 (wl 4 v) ∧ v + y = x + c * M ∧ v < M) ∧ w'.there b 0 4 := by
  have hbs : b < w.heap.size := there_lt ht (by decide)
  rw [wv]
  go_enter Tryd.func66, Tryd.ntmps66
  go_wp2
  have g0 : Grown w (w.alloc (.cells (wl 4 y).toArray 62)) := Grown.alloc (Grown.refl _) _ _
  have h0 : SX w b x y x 0 0 (w.alloc (.cells (wl 4 y).toArray 62)) :=
    ⟨rangeAt_grown hr g0, there_grown ht g0, rangeAt_alloc_new w 62 (wl 4 y), by rw [Nat.zero_mul, Nat.pow_zero, Nat.mod_one], hx, by decide, GB.of g0⟩
  generalize (w.alloc (.cells (wl 4 y).toArray 62)) = W0 at *
  clear g0 hr ht
  go_loopw [4, 6] (fun v4 v6 wr => ∃ k v c : Nat, v6 = .int .i64 (k : Int) ∧ v4 = .int .u64 (c : Int) ∧ k ≤ 4 ∧ SX w b x y v c k wr) (fun _ v6 _ => 4 - (intOf v6).toNat)
  case atStart => exact ⟨0, x, 0, rfl, rfl, by decide, h0⟩
  case round =>
    obtain ⟨k, v, c, rfl, rfl, hk, hA⟩ := hrel
    clear h0
    obtain ⟨rx, tx, ry, eq, vM, c1, gw⟩ := hA
    by_cases hlt : k < 4
    · have d1 : wr.cell? ⟨b, k, none⟩ = some (.int .u64 (dg B v k : Nat)) := by
        have := rx k _ (wl_get 4 _ k hlt); rwa [Nat.zero_add] at this
      have d2 : wr.cell? ⟨w.heap.size, k, none⟩ = some (.int .u64 (dg B y k : Nat)) := by
        have := ry k _ (wl_get 4 _ k hlt); rwa [Nat.zero_add] at this
      have d3 : wr.frozen? ⟨b, k, none⟩ = false := by
        have := (tx k hlt).2; rwa [Nat.zero_add] at this
      have hw1 : dg B v k < B := dg_lt B_pos
      have hw2 : dg B y k < B := dg_lt B_pos
      have hcall : ∀ w, (callFunc 70 #[.int .u64 (dg B v k : Nat), .int .u64 (dg B y k : Nat), .int .u64 (c : Int)]).run Tryd.prog w = .ok (.value (.tuple #[.int .u64 (((dg B v k + B - dg B y k - c) % B : Nat) : Int), .int .u64 ((if dg B v k < dg B y k + c then 1 else 0 : Nat) : Int)])) w := fun w => sub64 (dg B v k) (dg B y k) c c1 w
      have l1 := sub_step eq (sub_borrow hw1 hw2 c1)
      have hs : (dg B v k + B - dg B y k - c) % B < B := Nat.mod_lt _ B_pos
      have hst := st_lt (n := 4) B_pos hs hlt (by rw [B4]; exact vM)
      have hq : (if dg B v k < dg B y k + c then 1 else 0) ≤ 1 := by split <;> omega
      generalize (dg B v k + B - dg B y k - c) % B = rr at *
      generalize (if dg B v k < dg B y k + c then 1 else 0) = qq at *
      generalize dg B y k = yd at *
      generalize dg B v k = vd at *
      have b1 : (k : Int) < 4 := by omega
      have H1 := Hid.of l1
      have H2 := Hid.of hs
      have H3 := Hid.of hq
      have H4 := Hid.of rx
      have H5 := Hid.of tx
      have H6 := Hid.of ry
      have H7 := Hid.of hst
      have H8 := Hid.of gw
      clear l1 hs hq rx tx ry hst gw eq vM c1 hw1 hw2
      go_wp2
      go_region
      go_wp2
      go_roundw
      case rel =>
        refine ⟨k + 1, st B v k rr, qq, by go_num, rfl, by omega, ?_⟩
        exact ⟨wrange_set H4.out H2.out hlt, there_setCell H5.out _ _, range_put H6.out _ _ (by omega) _, H1.out, by rw [← B4]; exact H7.out, H3.out, GB.drewN (GB.setCell H8.out _) 1⟩
      case measure => simp [intOf]; omega
    · have hk4 : k = 4 := by omega
      subst hk4
      rw [B4, Nat.mod_eq_of_lt hy] at eq
      have H := Hid.of (show GB b w wr ∧ (∃ v c, wr.rangeAt b 0 (wl 4 v) ∧ v + y = x + c * M ∧ v < M) ∧ wr.there b 0 4 from ⟨gw, ⟨v, c, rx, eq, vM⟩, tx⟩)
      clear rx tx ry eq vM c1 gw hk hlt
      go_wp2
      go_end0
      exact ⟨rfl, H.out⟩
end Go.Proofs.YteijccjdejjbjaaDoor
