namespace Tlg

def pcF : Nat → Nat → Nat
  | 0, _ => 0
  | f + 1, n => n % 2 + pcF f (n / 2)
def pc (n : Nat) : Nat := pcF n n
theorem pcF_zero (f : Nat) : pcF f 0 = 0 := by
  induction f with
  | zero => rfl
  | succ f ih => simp [pcF, ih]
theorem pcF_more : ∀ (f n : Nat), n ≤ f → pcF (f + 1) n = pcF f n
  | 0, n, h => by
    obtain rfl : n = 0 := by omega
    rw [pcF_zero, pcF_zero]
  | f + 1, n, h => by
    show n % 2 + pcF (f + 1) (n / 2) = n % 2 + pcF f (n / 2)
    rw [pcF_more f (n / 2) (by omega)]
theorem pcF_up (n d : Nat) : pcF (n + d) n = pc n := by
  induction d with
  | zero => rfl
  | succ d ih =>
    rw [← Nat.add_assoc, pcF_more _ _ (by omega)]
    exact ih
theorem pc_zero : pc 0 = 0 := rfl
theorem pc_step (n : Nat) : pc n = n % 2 + pc (n / 2) := by
  cases n with
  | zero => rfl
  | succ m =>
    show pcF (m + 1) (m + 1) = _
    rw [pcF, ← pcF_up ((m + 1) / 2) (m - (m + 1) / 2), show (m + 1) / 2 + (m - (m + 1) / 2) = m by omega]
def layF : Nat → Nat → Nat
  | 0, _ => 0
  | f + 1, n => n + layF f (n / 2)
def lay (n : Nat) : Nat := layF n n
theorem layF_zero (f : Nat) : layF f 0 = 0 := by
  induction f with
  | zero => rfl
  | succ f ih => simp [layF, ih]
theorem layF_more : ∀ (f n : Nat), n ≤ f → layF (f + 1) n = layF f n
  | 0, n, h => by
    obtain rfl : n = 0 := by omega
    rw [layF_zero, layF_zero]
  | f + 1, n, h => by
    show n + layF (f + 1) (n / 2) = n + layF f (n / 2)
    rw [layF_more f (n / 2) (by omega)]
theorem layF_up (n d : Nat) : layF (n + d) n = lay n := by
  induction d with
  | zero => rfl
  | succ d ih =>
    rw [← Nat.add_assoc, layF_more _ _ (by omega)]
    exact ih
theorem lay_zero : lay 0 = 0 := rfl
theorem lay_step (n : Nat) : lay n = n + lay (n / 2) := by
  cases n with
  | zero => rfl
  | succ m =>
    show layF (m + 1) (m + 1) = _
    rw [layF, ← layF_up ((m + 1) / 2) (m - (m + 1) / 2), show (m + 1) / 2 + (m - (m + 1) / 2) = m by omega]
/-- how often 2 divides n -/
def tzF : Nat → Nat → Nat
  | 0, _ => 0
  | f + 1, n => if n = 0 then 0 else if n % 2 = 0 then tzF f (n / 2) + 1 else 0
def tz (n : Nat) : Nat := tzF n n
theorem tzF_zero (f : Nat) : tzF f 0 = 0 := by
  cases f with
  | zero => rfl
  | succ f => rfl
theorem tzF_more : ∀ (f n : Nat), n ≤ f → tzF (f + 1) n = tzF f n
  | 0, n, h => by
    obtain rfl : n = 0 := by omega
    rw [tzF_zero, tzF_zero]
  | f + 1, n, h => by
    show (if n = 0 then 0 else if n % 2 = 0 then tzF (f + 1) (n / 2) + 1 else 0) = if n = 0 then 0 else if n % 2 = 0 then tzF f (n / 2) + 1 else 0
    rw [tzF_more f (n / 2) (by omega)]
theorem tzF_up (n d : Nat) : tzF (n + d) n = tz n := by
  induction d with
  | zero => rfl
  | succ d ih =>
    rw [← Nat.add_assoc, tzF_more _ _ (by omega)]
    exact ih
theorem tz_zero : tz 0 = 0 := rfl
theorem tz_eq (n : Nat) : tz n = if n = 0 then 0 else if n % 2 = 0 then tz (n / 2) + 1 else 0 := by
  cases n with
  | zero => rfl
  | succ m =>
    show tzF (m + 1) (m + 1) = _
    rw [tzF, ← tzF_up ((m + 1) / 2) (m - (m + 1) / 2), show (m + 1) / 2 + (m - (m + 1) / 2) = m by omega]
theorem lay_even (n : Nat) : lay (2 * n) = 2 * n + lay n := by
  rw [lay_step, Nat.mul_div_cancel_left n (by decide)]
theorem lay_odd (n : Nat) : lay (2 * n + 1) = 2 * n + 1 + lay n := by
  rw [lay_step, show (2 * n + 1) / 2 = n by omega]
theorem tz_even (n : Nat) (h : 0 < n) : tz (2 * n) = tz n + 1 := by
  rw [tz_eq (2 * n), if_neg (by omega), if_pos (by omega), Nat.mul_div_cancel_left n (by decide)]
theorem tz_odd (n : Nat) : tz (2 * n + 1) = 0 := by
  rw [tz_eq, if_neg (by omega), if_neg (by omega)]

theorem lay_pc (n : Nat) : lay n + pc n = 2 * n := by
  induction n using Nat.strongRecOn with
  | ind n ih =>
    by_cases h : n = 0
    · subst h; rw [lay_zero, pc_zero]
    · have := ih (n / 2) (by omega)
      rw [lay_step, pc_step]; omega

theorem lay_succ (n : Nat) : lay (n + 1) = lay n + 1 + tz (n + 1) := by
  induction n using Nat.strongRecOn with
  | ind n ih =>
    obtain ⟨m, hm⟩ : ∃ m, n = 2 * m ∨ n = 2 * m + 1 := ⟨n / 2, by omega⟩
    rcases hm with rfl | rfl
    · rw [lay_odd, lay_even, tz_odd]; omega
    · have := ih m (by omega)
      rw [show 2 * m + 1 + 1 = 2 * (m + 1) by omega, lay_even, lay_odd, tz_even _ (by omega), this]; omega

theorem dvd_tz (r n : Nat) (h : 0 < n) : 2 ^ r ∣ n ↔ r ≤ tz n := by
  induction r generalizing n with
  | zero => simp
  | succ r ih =>
    obtain ⟨m, hm⟩ : ∃ m, n = 2 * m ∨ n = 2 * m + 1 := ⟨n / 2, by omega⟩
    rcases hm with rfl | rfl
    · rw [tz_even m (by omega), Nat.pow_succ, Nat.mul_comm, Nat.mul_dvd_mul_iff_left (by decide), ih m (by omega)]; omega
    · rw [tz_odd]
      constructor
      · intro hd
        have : 2 ∣ 2 * m + 1 := Nat.dvd_trans (Nat.pow_dvd_pow 2 (show 1 ≤ r + 1 by omega)) hd
        omega
      · intro h; omega

theorem lay_mono (n d : Nat) : lay n + d ≤ lay (n + d) := by
  induction d with
  | zero => exact Nat.le_refl _
  | succ d ih =>
    show lay n + (d + 1) ≤ lay (n + d + 1)
    rw [lay_succ]; omega
theorem lay_le {n m : Nat} (h : n ≤ m) : lay n + (m - n) ≤ lay m := by
  have := lay_mono n (m - n); rwa [show n + (m - n) = m by omega] at this
theorem lay_uniq {n m c : Nat} (h1 : lay n ≤ c) (h2 : c < lay (n + 1)) (h3 : lay m ≤ c) (h4 : c < lay (m + 1)) : n = m := by
  rcases Nat.lt_trichotomy n m with h | h | h
  · have := lay_le (show n + 1 ≤ m by omega); omega
  · exact h
  · have := lay_le (show m + 1 ≤ n by omega); omega

theorem lay_pow (l n : Nat) (h : 2 ^ (l + 1) ∣ n) : lay (n + 2 ^ l) + 1 = lay n + 2 ^ (l + 1) := by
  induction l generalizing n with
  | zero =>
    obtain ⟨m, rfl⟩ := h
    simp only [Nat.zero_add, Nat.pow_one, Nat.pow_zero]
    rw [lay_odd, lay_even]; omega
  | succ l ih =>
    obtain ⟨m, rfl⟩ := h
    have e1 : 2 ^ (l + 1 + 1) * m = 2 * (2 ^ (l + 1) * m) := by rw [Nat.pow_succ 2 (l + 1), Nat.mul_comm (2 ^ (l + 1)) 2, Nat.mul_assoc]
    have e2 : 2 ^ (l + 1) = 2 * 2 ^ l := by rw [Nat.pow_succ]; omega
    have e3 : 2 ^ (l + 1 + 1) = 2 * 2 ^ (l + 1) := by rw [Nat.pow_succ]; omega
    have := ih (2 ^ (l + 1) * m) ⟨m, rfl⟩
    rw [e1, show 2 * (2 ^ (l + 1) * m) + 2 ^ (l + 1) = 2 * (2 ^ (l + 1) * m + 2 ^ l) by omega, lay_even, lay_even]
    omega
theorem lay_two (l : Nat) : lay (2 ^ l) + 1 = 2 ^ (l + 1) := by
  have := lay_pow l 0 ⟨0, by simp⟩
  rw [Nat.zero_add, lay_zero] at this; omega

/-- the greatest whole subtrees that fit, from level k - 1 down -/
def gr : Nat → Nat → Nat → Nat × Nat
  | 0, n, r => (n, r)
  | k + 1, n, r => if 2 ^ (k + 1) - 1 ≤ r then gr k (n + 2 ^ k) (r - (2 ^ (k + 1) - 1)) else gr k n r
theorem gr_yes {k n r : Nat} (h : 2 ^ (k + 1) - 1 ≤ r) : gr (k + 1) n r = gr k (n + 2 ^ k) (r - (2 ^ (k + 1) - 1)) := by rw [gr, if_pos h]
theorem gr_no {k n r : Nat} (h : ¬ 2 ^ (k + 1) - 1 ≤ r) : gr (k + 1) n r = gr k n r := by rw [gr, if_neg h]

theorem gr_spec (k n r t : Nat) (h1 : 2 ^ (k + t) ∣ n + 2 ^ k) (h2 : r + 2 ≤ 2 ^ (k + 1) + t) :
    lay (gr k n r).1 + (gr k n r).2 = lay n + r ∧ 2 ^ (gr k n r).2 ∣ (gr k n r).1 + 1 := by
  induction k generalizing n r t with
  | zero =>
    refine ⟨rfl, ?_⟩
    show 2 ^ r ∣ n + 1
    rw [Nat.zero_add] at h1
    exact Nat.dvd_trans (Nat.pow_dvd_pow 2 (by simp at h2; omega)) h1
  | succ k ih =>
    have hp : 0 < 2 ^ k := Nat.pow_pos (by decide)
    have e2 : 2 ^ (k + 1) = 2 * 2 ^ k := by rw [Nat.pow_succ]; omega
    have e3 : 2 ^ (k + 1 + 1) = 2 * 2 ^ (k + 1) := by rw [Nat.pow_succ]; omega
    have hd : 2 ^ (k + 1) ∣ n := by
      have : 2 ^ (k + 1) ∣ n + 2 ^ (k + 1) := Nat.dvd_trans (Nat.pow_dvd_pow 2 (by omega)) h1
      exact (Nat.dvd_add_iff_left (Nat.dvd_refl _)).2 this
    by_cases h : 2 ^ (k + 1) - 1 ≤ r
    · rw [gr_yes h]
      obtain ⟨a, b⟩ := ih (n + 2 ^ k) (r - (2 ^ (k + 1) - 1)) (t + 1) (by
        rw [show n + 2 ^ k + 2 ^ k = n + 2 ^ (k + 1) by omega, show k + (t + 1) = k + 1 + t by omega]; exact h1) (by omega)
      refine ⟨?_, b⟩
      have := lay_pow k n hd
      omega
    · rw [gr_no h]
      exact ih n r 0 (by
        obtain ⟨m, rfl⟩ := hd
        refine ⟨2 * m + 1, ?_⟩
        show 2 ^ (k + 1) * m + 2 ^ k = 2 ^ k * (2 * m + 1)
        rw [e2, Nat.mul_add, Nat.mul_one, Nat.mul_comm 2 (2 ^ k), Nat.mul_assoc]) (by omega)

def rn (c : Nat) : Nat := (gr 49 0 c).1
def rr (c : Nat) : Nat := (gr 49 0 c).2
def top : Nat := 2 ^ 48

theorem r_spec {c : Nat} (h : c ≤ 2 ^ 49 - 1) : lay (rn c) + rr c = c ∧ 2 ^ rr c ∣ rn c + 1 := by
  have := gr_spec 49 0 c 0 ⟨1, by simp⟩ (by omega)
  rw [lay_zero, Nat.zero_add] at this
  exact this
theorem r_lt {c : Nat} (h : c ≤ 2 ^ 49 - 1) : c < lay (rn c + 1) := by
  obtain ⟨a, b⟩ := r_spec h
  rw [dvd_tz _ _ (by omega)] at b
  rw [lay_succ]; omega
theorem lay_top : lay top = 2 ^ 49 - 1 := by have := lay_two 48; unfold top; omega
theorem rn_le {c : Nat} (h : c ≤ 2 ^ 49 - 1) : rn c ≤ top := by
  obtain ⟨a, _⟩ := r_spec h
  have ht := lay_top
  by_cases hh : rn c ≤ top
  · exact hh
  · have := lay_le (show top ≤ rn c by omega); omega
theorem rn_lt {c : Nat} (h : c < 2 ^ 49 - 1) : rn c < top := by
  obtain ⟨a, _⟩ := r_spec (c := c) (by omega)
  have ht := lay_top
  by_cases hh : rn c < top
  · exact hh
  · have := lay_le (show top ≤ rn c by omega); omega
theorem rn_uniq {c n : Nat} (h : c ≤ 2 ^ 49 - 1) (h1 : lay n ≤ c) (h2 : c < lay (n + 1)) : rn c = n := by
  obtain ⟨a, _⟩ := r_spec h
  exact lay_uniq (c := c) (by omega) (r_lt h) h1 h2
theorem rr_of {c n : Nat} (h : c ≤ 2 ^ 49 - 1) (h1 : lay n ≤ c) (h2 : c < lay (n + 1)) : rr c = c - lay n := by
  obtain ⟨a, _⟩ := r_spec h
  rw [rn_uniq h h1 h2] at a; omega
theorem pow_le_top {r n : Nat} (h : 2 ^ r ∣ n + 1) (hn : n < top) : r ≤ 48 := by
  have := Nat.le_of_dvd (by omega) h
  by_cases hr : r ≤ 48
  · exact hr
  · have h2 := Nat.pow_lt_pow_right (a := 2) (by decide) (show 48 < r by omega)
    unfold top at hn; omega
theorem rr_le {c : Nat} (h : c < 2 ^ 49 - 1) : rr c ≤ 48 := pow_le_top (r_spec (c := c) (by omega)).2 (rn_lt h)

/-- the place of the node (l, n) -/
def plc (l n : Nat) : Nat := lay ((n + 1) * 2 ^ l - 1) + l
/-- the node of a place -/
def nd (c : Nat) : Nat := (rn c + 1) / 2 ^ rr c - 1

theorem plc_of {c : Nat} (h : c ≤ 2 ^ 49 - 1) : plc (rr c) (nd c) = c ∧ (nd c + 1) * 2 ^ rr c = rn c + 1 := by
  obtain ⟨a, b⟩ := r_spec h
  have hp : 0 < 2 ^ rr c := Nat.pow_pos (by decide)
  have hq : 0 < (rn c + 1) / 2 ^ rr c := Nat.div_pos (Nat.le_of_dvd (by omega) b) hp
  have e : (nd c + 1) * 2 ^ rr c = rn c + 1 := by
    unfold nd
    rw [Nat.sub_add_cancel hq, Nat.div_mul_cancel b]
  refine ⟨?_, e⟩
  unfold plc
  rw [e, Nat.add_sub_cancel]; exact a
theorem plc_lt {l n : Nat} (h : (n + 1) * 2 ^ l ≤ top) : plc l n < 2 ^ 49 - 1 ∧ lay ((n + 1) * 2 ^ l - 1) ≤ plc l n ∧ plc l n < lay ((n + 1) * 2 ^ l - 1 + 1) := by
  have hp : 0 < (n + 1) * 2 ^ l := Nat.mul_pos (by omega) (Nat.pow_pos (by decide))
  have h3 : plc l n < lay ((n + 1) * 2 ^ l - 1 + 1) := by
    rw [lay_succ, Nat.sub_add_cancel hp]
    have := (dvd_tz l ((n + 1) * 2 ^ l) hp).1 ⟨n + 1, Nat.mul_comm _ _⟩
    unfold plc; omega
  refine ⟨?_, ?_, h3⟩
  · rw [Nat.sub_add_cancel hp] at h3
    have := lay_le h
    have ht := lay_top
    omega
  · unfold plc; omega
theorem of_plc {l n : Nat} (h : (n + 1) * 2 ^ l ≤ top) : rn (plc l n) = (n + 1) * 2 ^ l - 1 ∧ rr (plc l n) = l ∧ nd (plc l n) = n := by
  obtain ⟨h1, h2, h3⟩ := plc_lt h
  have hp : 0 < 2 ^ l := Nat.pow_pos (by decide)
  have a := rn_uniq (by omega) h2 h3
  have b : rr (plc l n) = l := by rw [rr_of (by omega) h2 h3]; unfold plc; omega
  refine ⟨a, b, ?_⟩
  have hq : 0 < (n + 1) * 2 ^ l := Nat.mul_pos (by omega) hp
  unfold nd
  rw [a, b, Nat.sub_add_cancel hq, Nat.mul_div_cancel _ hp, Nat.add_sub_cancel]
theorem plc_up {l n : Nat} : plc (l + 1) n = plc l (2 * n + 1) + 1 := by
  unfold plc
  rw [show (2 * n + 1 + 1) * 2 ^ l = (n + 1) * 2 ^ (l + 1) by rw [Nat.pow_succ, show 2 * n + 1 + 1 = (n + 1) * 2 by omega, Nat.mul_assoc, Nat.mul_comm 2 (2 ^ l)]]; omega
theorem plc_zero (n : Nat) : plc 0 n = lay n := by unfold plc; simp

/-- the places of the peaks of n records, those below level k -/
def pk (n : Nat) : Nat → List Nat
  | 0 => []
  | k + 1 => if n / 2 ^ k % 2 = 1 then plc k (n / 2 ^ k - 1) :: pk n k else pk n k
theorem pk_cons {n k x : Nat} {t : List Nat} (h : pk n k = x :: t) : ∃ l, l < k ∧ x = plc l (n / 2 ^ l - 1) ∧ t = pk n l ∧ n / 2 ^ l % 2 = 1 ∧ n / 2 ^ k * 2 ^ k + 2 ^ l = n / 2 ^ l * 2 ^ l := by
  induction k with
  | zero => simp [pk] at h
  | succ k ih =>
    have e2 : 2 ^ (k + 1) = 2 ^ k * 2 := Nat.pow_succ 2 k
    have ed : n / 2 ^ (k + 1) = n / 2 ^ k / 2 := by rw [e2, Nat.div_div_eq_div_mul]
    by_cases hb : n / 2 ^ k % 2 = 1
    · rw [pk, if_pos hb] at h
      injection h with h1 h2
      refine ⟨k, by omega, h1.symm, h2.symm, hb, ?_⟩
      rw [ed, e2]
      generalize n / 2 ^ k = q at hb ⊢
      obtain ⟨m, rfl⟩ : ∃ m, q = 2 * m + 1 := ⟨q / 2, by omega⟩
      rw [show (2 * m + 1) / 2 = m by omega, Nat.add_mul, Nat.one_mul, Nat.mul_comm (2 ^ k) 2, ← Nat.mul_assoc, Nat.mul_comm m 2]
    · rw [pk, if_neg hb] at h
      obtain ⟨l, h1, h2, h3, h4, h5⟩ := ih h
      refine ⟨l, by omega, h2, h3, h4, ?_⟩
      rw [← h5, ed, e2]
      generalize n / 2 ^ k = q at hb ⊢
      obtain ⟨m, rfl⟩ : ∃ m, q = 2 * m := ⟨q / 2, by omega⟩
      rw [show 2 * m / 2 = m by omega, Nat.mul_comm (2 ^ k) 2, ← Nat.mul_assoc, Nat.mul_comm m 2]
theorem pk_nil {n k : Nat} (h : pk n k = []) : n / 2 ^ k * 2 ^ k = n := by
  induction k with
  | zero => simp
  | succ k ih =>
    by_cases hb : n / 2 ^ k % 2 = 1
    · rw [pk, if_pos hb] at h; simp at h
    · rw [pk, if_neg hb] at h
      rw [Nat.pow_succ, ← Nat.div_div_eq_div_mul]
      have := ih h
      generalize n / 2 ^ k = q at hb this ⊢
      obtain ⟨m, rfl⟩ : ∃ m, q = 2 * m := ⟨q / 2, by omega⟩
      rw [show 2 * m / 2 = m by omega, Nat.mul_comm (2 ^ k) 2, ← Nat.mul_assoc, Nat.mul_comm m 2]; exact this
theorem pk_yes {n k : Nat} (h : n / 2 ^ k % 2 = 1) : pk n (k + 1) = plc k (n / 2 ^ k - 1) :: pk n k := by rw [pk, if_pos h]
theorem pk_no {n k : Nat} (h : ¬ n / 2 ^ k % 2 = 1) : pk n (k + 1) = pk n k := by rw [pk, if_neg h]
theorem pk_len (n k : Nat) : (pk n k).length ≤ k := by
  induction k with
  | zero => simp [pk]
  | succ k ih =>
    unfold pk
    split
    · rw [List.length_cons]; omega
    · omega
/-- a whole subtree lies within -/
theorem pk_in {n l : Nat} (h : n / 2 ^ l % 2 = 1) : (n / 2 ^ l - 1 + 1) * 2 ^ l ≤ n := by
  have h1 : 1 ≤ n / 2 ^ l := by
    generalize n / 2 ^ l = q at h; omega
  rw [Nat.sub_add_cancel h1]; exact Nat.div_mul_le_self n _
end Tlg
