namespace ScalarNum

/-- digit i of v in base b -/
def dg (b v i : Nat) : Nat := v / b ^ i % b

/-- v with digit k put to z -/
def st (b v k z : Nat) : Nat := v / b ^ (k + 1) * b ^ (k + 1) + z * b ^ k + v % b ^ k

theorem dg_lt {b v i : Nat} (hb : 0 < b) : dg b v i < b := Nat.mod_lt _ hb

theorem split3 (b v k : Nat) : v = v / b ^ (k + 1) * b ^ (k + 1) + dg b v k * b ^ k + v % b ^ k := by
  have h1 := Nat.div_add_mod v (b ^ k)
  have h2 := Nat.div_add_mod (v / b ^ k) b
  rw [Nat.div_div_eq_div_mul, ← Nat.pow_succ] at h2
  unfold dg
  rw [Nat.pow_succ]
  rw [Nat.pow_succ] at h2
  generalize v / b ^ k % b = d at *
  generalize v / (b ^ k * b) = q at *
  generalize v / b ^ k = m at *
  generalize v % b ^ k = r at *
  generalize b ^ k = B at *
  subst h2
  rw [← h1, Nat.mul_add, Nat.mul_comm B d]
  congr 2
  rw [← Nat.mul_assoc, Nat.mul_comm]

theorem st_eq (b v k z : Nat) : st b v k z + dg b v k * b ^ k = v + z * b ^ k := by
  have h := split3 b v k
  unfold st
  omega

theorem st_same {b v k z : Nat} (hb : 0 < b) (hz : z < b) : dg b (st b v k z) k = z := by
  unfold dg st
  have hp : 0 < b ^ k := Nat.pow_pos hb
  have e : v / b ^ (k + 1) * b ^ (k + 1) + z * b ^ k + v % b ^ k = v % b ^ k + b ^ k * (b * (v / b ^ (k + 1)) + z) := by
    rw [Nat.pow_succ, Nat.mul_add]
    generalize v / (b ^ k * b) = q
    have e1 : q * (b ^ k * b) = b ^ k * (b * q) := by rw [← Nat.mul_assoc (b ^ k), Nat.mul_comm]
    rw [e1, Nat.mul_comm (b ^ k) z]
    omega
  rw [e, Nat.add_mul_div_left _ _ hp, Nat.div_eq_of_lt (Nat.mod_lt _ hp), Nat.zero_add, Nat.mul_add_mod, Nat.mod_eq_of_lt hz]

theorem dg_low {b : Nat} (hb : 0 < b) (q r j k : Nat) (h : j < k) : dg b (q * b ^ k + r) j = dg b r j := by
  obtain ⟨t, rfl⟩ : ∃ t, k = j + 1 + t := ⟨k - (j + 1), by omega⟩
  unfold dg
  have e : q * b ^ (j + 1 + t) + r = r + b ^ j * (b * (q * b ^ t)) := by
    rw [Nat.pow_add, Nat.pow_succ, Nat.add_comm]
    congr 1
    generalize b ^ j = x
    generalize b ^ t = y
    simp only [Nat.mul_left_comm, Nat.mul_comm]
  rw [e, Nat.add_mul_div_left _ _ (Nat.pow_pos hb), Nat.add_mul_mod_self_left]

theorem dg_high {b : Nat} (hb : 0 < b) (q r j k : Nat) (h : k ≤ j) (hr : r < b ^ k) : dg b (q * b ^ k + r) j = dg b q (j - k) := by
  obtain ⟨t, rfl⟩ : ∃ t, j = k + t := ⟨j - k, by omega⟩
  unfold dg
  have hp : 0 < b ^ k := Nat.pow_pos hb
  rw [Nat.pow_add, ← Nat.div_div_eq_div_mul, Nat.mul_comm q, Nat.mul_add_div hp, Nat.div_eq_of_lt hr, Nat.add_zero, Nat.add_sub_cancel_left]

theorem st_other {b v k z j : Nat} (hb : 0 < b) (hz : z < b) (hj : j ≠ k) : dg b (st b v k z) j = dg b v j := by
  have hp : 0 < b ^ k := Nat.pow_pos hb
  have hr := Nat.mod_lt v hp
  rcases Nat.lt_or_gt_of_ne hj with h | h
  · have e1 : st b v k z = (v / b ^ (k + 1) * b + z) * b ^ k + v % b ^ k := by
      unfold st
      rw [Nat.add_mul, Nat.pow_succ, Nat.mul_assoc, Nat.mul_comm b]
    have e2 : v = v / b ^ k * b ^ k + v % b ^ k := by rw [Nat.mul_comm]; exact (Nat.div_add_mod v _).symm
    rw [e1, dg_low hb _ _ _ _ h]
    conv => rhs; rw [e2, dg_low hb _ _ _ _ h]
  · have e1 : st b v k z = v / b ^ (k + 1) * b ^ (k + 1) + (z * b ^ k + v % b ^ k) := by unfold st; omega
    have e2 : v = v / b ^ (k + 1) * b ^ (k + 1) + v % b ^ (k + 1) := by rw [Nat.mul_comm]; exact (Nat.div_add_mod v _).symm
    have hr1 : z * b ^ k + v % b ^ k < b ^ (k + 1) := by
      rw [Nat.pow_succ, Nat.mul_comm _ b]
      have : (z + 1) * b ^ k ≤ b * b ^ k := Nat.mul_le_mul_right _ hz
      rw [Nat.add_mul] at this
      omega
    rw [e1, dg_high hb _ _ _ _ h hr1]
    conv => rhs; rw [e2, dg_high hb _ _ _ _ h (Nat.mod_lt _ (Nat.pow_pos hb))]

/-- the digits of v in base b, n of them -/
def ds (b n v : Nat) : List Nat := (List.range n).map (dg b v)
theorem ds_length (b n v : Nat) : (ds b n v).length = n := by simp [ds]
theorem ds_get (b n v i : Nat) (h : i < n) : (ds b n v)[i]? = some (dg b v i) := by simp [ds, h]
theorem ds_set {b n v k z : Nat} (hb : 0 < b) (hz : z < b) (hk : k < n) : (ds b n v).set k z = ds b n (st b v k z) := by
  apply List.ext_getElem?
  intro j
  rw [List.getElem?_set]
  by_cases hj : j < n
  · rw [ds_get _ _ _ _ hj]
    by_cases h : k = j
    · subst h
      rw [if_pos rfl, ds_length, if_pos hk, ds_get _ _ _ _ hk, st_same hb hz]
    · rw [if_neg h, ds_get _ _ _ _ hj, st_other hb hz (fun e => h e.symm)]
  · have h1 : (ds b n (st b v k z))[j]? = none := by simp [ds_length]; omega
    rw [h1]
    have h2 : (ds b n v)[j]? = none := by simp [ds_length]; omega
    rw [if_neg (by omega), h2]
theorem st_lt {b n v k z : Nat} (hb : 0 < b) (hz : z < b) (hk : k < n) (hv : v < b ^ n) : st b v k z < b ^ n := by
  have e1 : st b v k z = v / b ^ (k + 1) * b ^ (k + 1) + (z * b ^ k + v % b ^ k) := by unfold st; omega
  have hp : 0 < b ^ k := Nat.pow_pos hb
  have hr := Nat.mod_lt v hp
  have hr1 : z * b ^ k + v % b ^ k < b ^ (k + 1) := by
    rw [Nat.pow_succ, Nat.mul_comm _ b]
    have : (z + 1) * b ^ k ≤ b * b ^ k := Nat.mul_le_mul_right _ hz
    rw [Nat.add_mul] at this
    omega
  obtain ⟨t, rfl⟩ : ∃ t, n = k + 1 + t := ⟨n - (k + 1), by omega⟩
  rw [Nat.pow_add] at hv ⊢
  have hq : v / b ^ (k + 1) < b ^ t := Nat.div_lt_of_lt_mul hv
  have h3 : (v / b ^ (k + 1) + 1) * b ^ (k + 1) ≤ b ^ t * b ^ (k + 1) := Nat.mul_le_mul_right _ hq
  rw [Nat.add_mul] at h3
  rw [Nat.mul_comm (b ^ (k + 1))]
  omega
theorem mod_succ (b v k : Nat) : v % b ^ (k + 1) = v % b ^ k + dg b v k * b ^ k := by
  unfold dg
  rw [Nat.pow_succ, Nat.mod_mul, Nat.mul_comm]
/-- 2^64 -/
abbrev B : Nat := 18446744073709551616
/-- 2^256 -/
abbrev M : Nat := 115792089237316195423570985008687907853269984665640564039457584007913129639936
theorem B_pos : 0 < B := by decide
theorem B4 : B ^ 4 = M := by decide

/-- t is put on at place k: what stays, what is carried -/
theorem acc (v k t : Nat) : st B v k ((dg B v k + t) % B) + (dg B v k + t) / B * B ^ (k + 1) = v + t * B ^ k := by
  have h := st_eq B v k ((dg B v k + t) % B)
  have h2 := Nat.div_add_mod (dg B v k + t) B
  generalize st B v k ((dg B v k + t) % B) = v' at *
  generalize dg B v k = w at *
  generalize (w + t) / B = q at *
  generalize (w + t) % B = r at *
  rw [Nat.pow_succ]
  generalize B ^ k = P at *
  have e : (w + t) * P = q * (P * B) + r * P := by
    rw [← h2, Nat.add_mul]
    congr 1
    rw [Nat.mul_comm B q, Nat.mul_assoc, Nat.mul_comm B P]
  rw [Nat.add_mul] at e
  omega

theorem dec (v k t d c : Nat) (hd : d + t = dg B v k + c * B) : st B v k d + t * B ^ k = v + c * B ^ (k + 1) := by
  have h := st_eq B v k d
  generalize st B v k d = v' at *
  generalize dg B v k = w at *
  rw [Nat.pow_succ]
  generalize B ^ k = P at *
  have e : d * P + t * P = w * P + c * (P * B) := by
    rw [← Nat.add_mul, hd, Nat.add_mul, Nat.mul_assoc, Nat.mul_comm B P]
  omega

theorem add_step {v x y c k : Nat} (h : v + c * B ^ k = x + y % B ^ k) :
    st B v k ((dg B v k + dg B y k + c) % B) + (dg B v k + dg B y k + c) / B * B ^ (k + 1) = x + y % B ^ (k + 1) := by
  have := acc v k (dg B y k + c)
  rw [← Nat.add_assoc] at this
  rw [this, mod_succ, Nat.add_mul]
  omega

theorem sub_step {v x y c k d c' : Nat} (h : v + y % B ^ k = x + c * B ^ k) (hd : d + (dg B y k + c) = dg B v k + c' * B) :
    st B v k d + y % B ^ (k + 1) = x + c' * B ^ (k + 1) := by
  have := dec v k (dg B y k + c) d c' hd
  rw [mod_succ]
  rw [Nat.add_mul] at this
  omega

/-- only what lies at and below place k has changed -/
theorem st_div {b v k z : Nat} (hb : 0 < b) (hz : z < b) : st b v k z / b ^ (k + 1) = v / b ^ (k + 1) := by
  have hp : 0 < b ^ k := Nat.pow_pos hb
  have hr := Nat.mod_lt v hp
  have hr1 : z * b ^ k + v % b ^ k < b ^ (k + 1) := by
    rw [Nat.pow_succ, Nat.mul_comm _ b]
    have : (z + 1) * b ^ k ≤ b * b ^ k := Nat.mul_le_mul_right _ hz
    rw [Nat.add_mul] at this
    omega
  have e1 : st b v k z = b ^ (k + 1) * (v / b ^ (k + 1)) + (z * b ^ k + v % b ^ k) := by unfold st; rw [Nat.mul_comm (b ^ (k + 1))]; omega
  rw [e1, Nat.mul_add_div (Nat.pow_pos hb), Nat.div_eq_of_lt hr1, Nat.add_zero]

theorem div_succ {v x k : Nat} (h : v / B ^ k = x / B ^ k) : v / B ^ (k + 1) = x / B ^ (k + 1) := by
  rw [Nat.pow_succ, ← Nat.div_div_eq_div_mul, h, Nat.div_div_eq_div_mul]

theorem shl_w (w g : Nat) (hw : w < 18446744073709551616) (hg : g < 16) : (w + (15 * w + g)) % 18446744073709551616 = (16 * w) % 18446744073709551616 + g ∧ (w + (15 * w + g)) / 18446744073709551616 = (16 * w) / 18446744073709551616 ∧ (16 * w) % 18446744073709551616 + g < 18446744073709551616 ∧ 16 * w / 18446744073709551616 < 16 := by omega

/-- four bits to the left -/
theorem shl_step {v x d g k : Nat} (h : v + g * B ^ k = x + d + 15 * (x % B ^ k)) (hg : g < 16) (hx : v / B ^ k = x / B ^ k) :
    (16 * dg B v k) % B + g < B ∧ st B v k ((16 * dg B v k) % B + g) + (16 * dg B v k) / B * B ^ (k + 1) = x + d + 15 * (x % B ^ (k + 1)) ∧ (16 * dg B v k) / B < 16
      ∧ st B v k ((16 * dg B v k) % B + g) / B ^ (k + 1) = x / B ^ (k + 1) := by
  have hw : dg B v k < B := dg_lt B_pos
  have hwx : dg B v k = dg B x k := by unfold dg; rw [hx]
  have a := acc v k (15 * dg B v k + g)
  obtain ⟨e1, e2, hlt, h16⟩ := shl_w (dg B v k) g hw hg
  rw [e1, e2] at a
  refine ⟨hlt, ?_, h16, ?_⟩
  · rw [a, mod_succ, Nat.mul_add, Nat.add_mul, hwx]
    have : 15 * dg B x k * B ^ k = 15 * (dg B x k * B ^ k) := Nat.mul_assoc _ _ _
    omega
  · rw [st_div B_pos hlt]; exact div_succ hx
theorem div_sub (N q v1 c : Nat) (hq : N / 7237005577332262213973186563042994240829374041602535252466099000494570602496 = q) (hq2 : q ≤ 16) (h : v1 + q * 7237005577332262213973186563042994240857116359379907606001950938285454250989 % 115792089237316195423570985008687907853269984665640564039457584007913129639936 = N % 115792089237316195423570985008687907853269984665640564039457584007913129639936 + c * 115792089237316195423570985008687907853269984665640564039457584007913129639936) (hv : v1 < 115792089237316195423570985008687907853269984665640564039457584007913129639936) :
    (v1 / 57896044618658097711785492504343953926634992332820282019728792003956564819968 = 0 → v1 = N % 7237005577332262213973186563042994240857116359379907606001950938285454250989) ∧ (v1 / 57896044618658097711785492504343953926634992332820282019728792003956564819968 = 1 → ∀ v2 c2, v2 + c2 * 115792089237316195423570985008687907853269984665640564039457584007913129639936 = v1 + 7237005577332262213973186563042994240857116359379907606001950938285454250989 → v2 < 115792089237316195423570985008687907853269984665640564039457584007913129639936 → v2 = N % 7237005577332262213973186563042994240857116359379907606001950938285454250989) ∧ v1 / 57896044618658097711785492504343953926634992332820282019728792003956564819968 ≤ 1 := by
  have hr := Nat.div_add_mod N 7237005577332262213973186563042994240829374041602535252466099000494570602496
  have hr2 := Nat.mod_lt N (show 7237005577332262213973186563042994240829374041602535252466099000494570602496 > 0 by decide)
  rw [hq] at hr
  generalize N % 7237005577332262213973186563042994240829374041602535252466099000494570602496 = r at *
  have hqc : q = 0 ∨ q = 1 ∨ q = 2 ∨ q = 3 ∨ q = 4 ∨ q = 5 ∨ q = 6 ∨ q = 7 ∨ q = 8 ∨ q = 9 ∨ q = 10 ∨ q = 11 ∨ q = 12 ∨ q = 13 ∨ q = 14 ∨ q = 15 ∨ q = 16 := by omega
  clear hq hq2
  rcases hqc with rfl | rfl | rfl | rfl | rfl | rfl | rfl | rfl | rfl | rfl | rfl | rfl | rfl | rfl | rfl | rfl | rfl <;> simp only [Nat.reduceMul, Nat.reduceMod] at h hr <;> (subst hr; refine ⟨fun h1 => ?_, fun h1 v2 c2 h2 h3 => ?_, ?_⟩ <;> omega)
theorem mul_word (p w c : Nat) (hp : p ≤ 340282366920938463426481119284349108225) (hw : w < 18446744073709551616) (hc : c < 18446744073709551616) :
    p / 18446744073709551616 + (p % 18446744073709551616 + w) / 18446744073709551616 < 18446744073709551616 ∧
    p / 18446744073709551616 + (p % 18446744073709551616 + w) / 18446744073709551616 + ((p % 18446744073709551616 + w) % 18446744073709551616 + c) / 18446744073709551616 = (w + (p + c)) / 18446744073709551616 ∧
    ((p % 18446744073709551616 + w) % 18446744073709551616 + c) % 18446744073709551616 = (w + (p + c)) % 18446744073709551616 ∧
    (w + (p + c)) / 18446744073709551616 < 18446744073709551616 := by omega

theorem mul_le {x y : Nat} (hx : x < B) (hy : y < B) : x * y ≤ 340282366920938463426481119284349108225 :=
  Nat.mul_le_mul (Nat.le_of_lt_succ (n := 18446744073709551615) hx) (Nat.le_of_lt_succ (n := 18446744073709551615) hy)

/-- a step of the inner loop -/
theorem times_step {v c i j S xi y : Nat} (h : v + c * B ^ (i + j) = S + xi * (y % B ^ j) * B ^ i) :
    st B v (i + j) ((dg B v (i + j) + (xi * dg B y j + c)) % B) + (dg B v (i + j) + (xi * dg B y j + c)) / B * B ^ (i + (j + 1)) = S + xi * (y % B ^ (j + 1)) * B ^ i := by
  have a := acc v (i + j) (xi * dg B y j + c)
  rw [← Nat.add_assoc i j 1, a, mod_succ, Nat.add_mul, Nat.mul_add, Nat.add_mul]
  have e : xi * (dg B y j * B ^ j) * B ^ i = xi * dg B y j * B ^ (i + j) := by
    rw [Nat.pow_add, ← Nat.mul_assoc, Nat.mul_assoc, Nat.mul_comm (B ^ j)]
  omega

/-- the carry is laid above -/
theorem times_top {v c i S xi y : Nat} (h : v + c * B ^ (i + 4) = S + xi * (y % B ^ 4) * B ^ i) (hv : v < B ^ (i + 4)) (hy : y < M) :
    st B v (i + 4) c = S + xi * y * B ^ i := by
  have hd : dg B v (i + 4) = 0 := by unfold dg; rw [Nat.div_eq_of_lt hv]; rfl
  have := st_eq B v (i + 4) c
  have e : y % B ^ 4 = y := Nat.mod_eq_of_lt (by rw [B4]; exact hy)
  rw [hd] at this
  rw [e] at h
  omega

theorem times_next (x y z i : Nat) : z + x % B ^ i * y + dg B x i * y * B ^ i = z + x % B ^ (i + 1) * y := by
  rw [mod_succ, Nat.add_mul, Nat.add_assoc, Nat.mul_right_comm]

theorem times_lt {x y z i : Nat} (hy : y < M) (hz : z < M) : z + x % B ^ i * y < B ^ (i + 4) := by
  have h1 : x % B ^ i + 1 ≤ B ^ i := Nat.mod_lt _ (Nat.pow_pos B_pos)
  have h2 : (x % B ^ i + 1) * M ≤ B ^ i * M := Nat.mul_le_mul_right _ h1
  have h3 : x % B ^ i * y ≤ x % B ^ i * M := Nat.mul_le_mul_left _ (Nat.le_of_lt hy)
  rw [Nat.pow_add, B4]
  rw [Nat.add_mul] at h2
  omega
theorem pow_B (k : Nat) : B ^ k = 256 ^ (8 * k) := by
  rw [show B = 256 ^ 8 from by decide, ← Nat.pow_mul]

theorem byte_word (n i : Nat) : dg B n (i / 8) / 2 ^ (i % 8 * 8) % 256 = dg 256 n i := by
  unfold dg
  have hi : i = 8 * (i / 8) + i % 8 := by omega
  have hj : i % 8 < 8 := Nat.mod_lt _ (by decide)
  generalize i / 8 = k at *
  generalize i % 8 = j at *
  subst hi
  rw [pow_B, Nat.pow_add, ← Nat.div_div_eq_div_mul]
  generalize n / 256 ^ (8 * k) = x
  have h8 : j = 0 ∨ j = 1 ∨ j = 2 ∨ j = 3 ∨ j = 4 ∨ j = 5 ∨ j = 6 ∨ j = 7 := by omega
  show x % 18446744073709551616 / 2 ^ (j * 8) % 256 = x / 256 ^ j % 256
  rcases h8 with rfl | rfl | rfl | rfl | rfl | rfl | rfl | rfl <;> simp only [Nat.reducePow, Nat.reduceMul, Nat.div_one] <;> omega

theorem ld_step (n i : Nat) :
    dg B (n % 256 ^ i) (i / 8) < 2 ^ (i % 8 * 8) ∧ dg 256 n i * 2 ^ (i % 8 * 8) + dg B (n % 256 ^ i) (i / 8) < B ∧
    st B (n % 256 ^ i) (i / 8) (dg 256 n i * 2 ^ (i % 8 * 8) + dg B (n % 256 ^ i) (i / 8)) = n % 256 ^ (i + 1) := by
  have hi : i = 8 * (i / 8) + i % 8 := by omega
  have hj : i % 8 < 8 := Nat.mod_lt _ (by decide)
  have hp : (2 : Nat) ^ (i % 8 * 8) = 256 ^ (i % 8) := by
    rw [Nat.mul_comm, Nat.pow_mul]
  rw [hp]
  have hb : dg 256 n i < 256 := dg_lt (by decide)
  have hv : n % 256 ^ i < 256 ^ i := Nat.mod_lt _ (Nat.pow_pos (by decide))
  have hm := mod_succ 256 n i
  generalize hk : i / 8 = k at *
  generalize i % 8 = j at *
  have hpi : 256 ^ i = 256 ^ j * B ^ k := by rw [hi, pow_B, ← Nat.pow_add, Nat.add_comm]
  have hw : dg B (n % 256 ^ i) k < 256 ^ j := by
    refine Nat.lt_of_le_of_lt (Nat.mod_le _ _) (Nat.div_lt_of_lt_mul ?_)
    rw [Nat.mul_comm]; rw [hpi] at hv ⊢; exact hv
  have h1 : dg 256 n i * 256 ^ j + dg B (n % 256 ^ i) k < B := by
    have h2 : (dg 256 n i + 1) * 256 ^ j ≤ 256 * 256 ^ j := Nat.mul_le_mul_right _ hb
    have h3 : 256 * 256 ^ j ≤ 256 ^ 8 := by
      rw [Nat.mul_comm, ← Nat.pow_succ]; exact Nat.pow_le_pow_right (by decide) hj
    have h4 : (256 : Nat) ^ 8 = B := by decide
    rw [h4] at h3
    rw [Nat.add_mul] at h2
    omega
  refine ⟨hw, h1, ?_⟩
  have h5 := st_eq B (n % 256 ^ i) k (dg 256 n i * 256 ^ j + dg B (n % 256 ^ i) k)
  rw [hm, hpi]
  rw [Nat.add_mul, Nat.mul_assoc] at h5
  rw [hpi] at h5
  omega

theorem by_step (n i : Nat) : st 256 (n % 256 ^ i) i (dg 256 n i) = n % 256 ^ (i + 1) := by
  have h := st_eq 256 (n % 256 ^ i) i (dg 256 n i)
  have hd : dg 256 (n % 256 ^ i) i = 0 := by
    unfold dg; rw [Nat.div_eq_of_lt (Nat.mod_lt _ (Nat.pow_pos (by decide)))]
  rw [hd] at h
  rw [mod_succ]
  omega

/-- digits of 4 bits, from the top -/
def hx (low i : Nat) : Nat := low / 16 ^ (63 - i) % 16
theorem hx_word (low i : Nat) (hi : i < 64) : dg B low (3 - i / 16) / 2 ^ (60 - i % 16 * 4) % 16 = hx low i := by
  unfold dg hx
  have e : 63 - i = 16 * (3 - i / 16) + (15 - i % 16) := by omega
  have e2 : 60 - i % 16 * 4 = 4 * (15 - i % 16) := by omega
  have hj : 15 - i % 16 < 16 := by omega
  rw [e, e2]
  generalize 3 - i / 16 = k
  generalize 15 - i % 16 = j at *
  rw [pow_B, show (256 : Nat) = 16 ^ 2 from rfl, ← Nat.pow_mul, show 2 * (8 * k) = 16 * k by omega, Nat.pow_add, ← Nat.div_div_eq_div_mul]
  generalize low / 16 ^ (16 * k) = x
  rw [Nat.pow_mul]
  show x % 18446744073709551616 / 16 ^ j % 16 = x / 16 ^ j % 16
  have h8 : j = 0 ∨ j = 1 ∨ j = 2 ∨ j = 3 ∨ j = 4 ∨ j = 5 ∨ j = 6 ∨ j = 7 ∨ j = 8 ∨ j = 9 ∨ j = 10 ∨ j = 11 ∨ j = 12 ∨ j = 13 ∨ j = 14 ∨ j = 15 := by omega
  rcases h8 with rfl | rfl | rfl | rfl | rfl | rfl | rfl | rfl | rfl | rfl | rfl | rfl | rfl | rfl | rfl | rfl <;> simp only [Nat.reducePow, Nat.div_one] <;> omega

theorem hx_step (L high low i : Nat) (hi : i < 64) :
    (16 * ((high * 16 ^ i + low / 16 ^ (64 - i)) % L) + hx low i) % L = (high * 16 ^ (i + 1) + low / 16 ^ (64 - (i + 1))) % L := by
  rw [Nat.add_mod, Nat.mul_mod, Nat.mod_mod, ← Nat.mul_mod, ← Nat.add_mod]
  congr 1
  unfold hx
  have e : 64 - i = (63 - i) + 1 := by omega
  have e2 : 64 - (i + 1) = 63 - i := by omega
  rw [e, e2, Nat.pow_succ (n := 16) (m := 63 - i), ← Nat.div_div_eq_div_mul, Nat.pow_succ]
  generalize low / 16 ^ (63 - i) = y
  generalize 16 ^ i = z
  rw [Nat.mul_add, ← Nat.mul_assoc high, Nat.mul_comm (high * z) 16]
  omega
end ScalarNum
