namespace ScalarNum

/-- a prime number -/
def Pr (r : Nat) : Prop := 2 ≤ r ∧ ∀ m, m ∣ r → m = 1 ∨ m = r

theorem Pr.coprime {r a : Nat} (h : Pr r) (ha : ¬ r ∣ a) : Nat.gcd r a = 1 := by
  rcases h.2 (Nat.gcd r a) (Nat.gcd_dvd_left r a) with g | g
  · exact g
  · exact absurd (g ▸ Nat.gcd_dvd_right r a) ha

theorem Pr.dvd_mul {r a b : Nat} (h : Pr r) (hd : r ∣ a * b) : r ∣ a ∨ r ∣ b := by
  by_cases ha : r ∣ a
  · exact .inl ha
  · exact .inr (Nat.Coprime.dvd_of_dvd_mul_left (h.coprime ha) hd)

theorem Pr.dvd_pow {r a n : Nat} (h : Pr r) (hd : r ∣ a ^ n) : r ∣ a := by
  induction n with
  | zero =>
    have : r = 1 := Nat.dvd_one.1 (by simpa using hd)
    have := h.1; omega
  | succ n ih =>
    rw [Nat.pow_succ] at hd
    rcases h.dvd_mul hd with g | g
    · exact ih g
    · exact g

def prod : List Nat → Nat
  | [] => 1
  | x :: t => x * prod t

theorem prod_perm {l m : List Nat} (h : List.Perm l m) : prod l = prod m := by
  induction h with
  | nil => rfl
  | cons x _ ih => simp [prod, ih]
  | swap x y l => simp [prod, Nat.mul_left_comm]
  | trans _ _ h1 h2 => exact h1.trans h2

theorem perm_of {l m : List Nat} (hn : l.Nodup) (hs : ∀ x ∈ l, x ∈ m) (hl : m.length ≤ l.length) : l.Perm m := by
  induction l generalizing m with
  | nil =>
    have : m = [] := List.length_eq_zero_iff.1 (by simpa using hl)
    subst this; exact .refl _
  | cons x t ih =>
    have hx : x ∈ m := hs x (by simp)
    have hp := List.perm_cons_erase hx
    have hn' := List.nodup_cons.1 hn
    refine List.Perm.trans (.cons x (ih hn'.2 ?_ ?_)) hp.symm
    · intro y hy
      have hne : y ≠ x := by rintro rfl; exact hn'.1 hy
      exact (List.mem_erase_of_ne hne).2 (hs y (by simp [hy]))
    · rw [List.length_erase_of_mem hx]; simp at hl; omega

theorem prod_map (a r : Nat) (l : List Nat) : prod (l.map (fun x => a * x % r)) % r = a ^ l.length * prod l % r := by
  induction l with
  | nil => simp [prod]
  | cons x t ih =>
    simp only [List.map, prod, List.length_cons]
    rw [Nat.mul_mod, ih, Nat.mod_mod, ← Nat.mul_mod, Nat.pow_succ]
    congr 1
    simp only [Nat.mul_assoc, Nat.mul_left_comm, Nat.mul_comm]

theorem dvd_of_mod_eq {r x y : Nat} (h : x % r = y % r) : r ∣ x - y := by
  exact (Nat.dvd_iff_mod_eq_zero).2 (Nat.sub_mod_eq_zero_of_mod_eq h)

theorem mod_eq_of_dvd {r x y : Nat} (h : r ∣ x - y) (hle : y ≤ x) : x % r = y % r := by
  obtain ⟨k, hk⟩ := h
  have : x = y + r * k := by omega
  rw [this, Nat.add_mul_mod_self_left]

theorem Pr.cancel {r a b c : Nat} (h : Pr r) (hc : ¬ r ∣ c) (e : a * c % r = b * c % r) : a % r = b % r := by
  have key : ∀ x y : Nat, x * c % r = y * c % r → y ≤ x → x % r = y % r := by
    intro x y e hle
    have hd : r ∣ x * c - y * c := dvd_of_mod_eq e
    rw [← Nat.sub_mul] at hd
    rcases h.dvd_mul hd with g | g
    · exact mod_eq_of_dvd g hle
    · exact absurd g hc
  rcases Nat.le_total b a with hle | hle
  · exact key a b e hle
  · exact (key b a e.symm hle).symm

theorem Pr.not_dvd_of_lt {r x : Nat} (h1 : 1 ≤ x) (h2 : x < r) : ¬ r ∣ x := by
  intro h; have := Nat.le_of_dvd h1 h; omega

theorem fermat {r a : Nat} (h : Pr r) (ha : ¬ r ∣ a) : a ^ (r-1) % r = 1 := by
  have h2 := h.1
  have hm : ∀ x, x ∈ List.range' 1 (r-1) ↔ 1 ≤ x ∧ x < r := by
    intro x; rw [List.mem_range'_1]; omega
  have hp : ((List.range' 1 (r-1)).map (fun x => a * x % r)).Perm (List.range' 1 (r-1)) := by
    refine perm_of ?_ ?_ ?_
    · refine List.pairwise_map.2 ?_
      refine List.Pairwise.imp_of_mem ?_ (List.nodup_range' (s := 1) (n := r-1))
      intro x y hx hy hne e
      rw [hm] at hx hy
      rw [Nat.mul_comm a x, Nat.mul_comm a y] at e
      have := h.cancel ha e
      rw [Nat.mod_eq_of_lt hx.2, Nat.mod_eq_of_lt hy.2] at this
      exact hne this
    · intro x hx
      obtain ⟨y, hy, rfl⟩ := List.mem_map.1 hx
      rw [hm] at hy ⊢
      refine ⟨?_, Nat.mod_lt _ (by omega)⟩
      apply Nat.pos_of_ne_zero
      intro e
      rcases h.dvd_mul ((Nat.dvd_iff_mod_eq_zero).2 e) with g | g
      · exact ha g
      · exact Pr.not_dvd_of_lt hy.1 hy.2 g
    · simp
  have e := prod_perm hp
  have e2 := prod_map a r (List.range' 1 (r-1))
  rw [e] at e2
  have hc : ¬ r ∣ prod (List.range' 1 (r-1)) := by
    have : ∀ l : List Nat, (∀ x ∈ l, ¬ r ∣ x) → ¬ r ∣ prod l := by
      intro l; induction l with
      | nil => intro _ hd; have := Nat.dvd_one.1 hd; omega
      | cons x t ih =>
        intro hx hd
        rcases h.dvd_mul hd with g | g
        · exact hx x (by simp) g
        · exact ih (fun y hy => hx y (by simp [hy])) g
    refine this _ ?_
    intro x hx; rw [hm] at hx; exact Pr.not_dvd_of_lt hx.1 hx.2
  rw [List.length_range'] at e2
  have := h.cancel (a := 1) (b := a ^ (r-1)) hc (by rw [Nat.one_mul]; exact e2)
  rw [← this, Nat.mod_eq_of_lt (by omega)]

theorem pow_mul_mod_one {b r m : Nat} (h : b ^ m % r = 1 % r) (k : Nat) : b ^ (m * k) % r = 1 % r := by
  rw [Nat.pow_mul, Nat.pow_mod, h, ← Nat.pow_mod, Nat.one_pow]

theorem pow_gcd {b r : Nat} : ∀ m n : Nat, b ^ m % r = 1 % r → b ^ n % r = 1 % r → b ^ (Nat.gcd m n) % r = 1 % r := by
  intro m n
  refine Nat.gcd.induction (P := fun m n => b ^ m % r = 1 % r → b ^ n % r = 1 % r → b ^ (Nat.gcd m n) % r = 1 % r) m n ?_ ?_
  · intro n _ h; simpa using h
  · intro m n hm ih h1 h2
    rw [Nat.gcd_rec]
    refine ih ?_ h1
    have e : n = m * (n / m) + n % m := (Nat.div_add_mod n m).symm
    rw [e, Nat.pow_add, Nat.mul_mod, pow_mul_mod_one h1, ← Nat.mul_mod, Nat.one_mul] at h2
    exact h2

theorem pock {n a q r k : Nat} (hr : Pr r) (hrn : r ∣ n) (hq : Pr q) (hk : n - 1 = k * q)
    (h1 : a ^ (n - 1) % n = 1 % n) (hg : Nat.gcd (a ^ k % n + (n - 1)) n = 1) (hn : 2 ≤ n) : q ∣ r - 1 := by
  have hra : ¬ r ∣ a ^ k := by
    intro hd
    have : r ∣ a ^ (n-1) := by
      rw [hk, Nat.pow_mul]
      have : q ≠ 0 := by have := hq.1; omega
      obtain ⟨q', rfl⟩ := Nat.exists_eq_succ_of_ne_zero this
      rw [Nat.pow_succ]
      exact Nat.dvd_trans hd (Nat.dvd_mul_left _ _)
    have h0 : a ^ (n-1) % r = 0 := (Nat.dvd_iff_mod_eq_zero).1 this
    have h1' : a ^ (n-1) % r = 1 % r := by
      have := congrArg (· % r) h1
      simpa [Nat.mod_mod_of_dvd _ hrn] using this
    have := hr.1
    rw [h0, Nat.mod_eq_of_lt (by omega)] at h1'
    omega
  have hf : (a ^ k) ^ (r - 1) % r = 1 % r := by
    rw [fermat hr hra, Nat.mod_eq_of_lt hr.1]
  have hb : (a ^ k) ^ q % r = 1 % r := by
    rw [← Nat.pow_mul, ← hk]
    have := congrArg (· % r) h1
    simpa [Nat.mod_mod_of_dvd _ hrn] using this
  rcases hq.2 (Nat.gcd q (r-1)) (Nat.gcd_dvd_left _ _) with g | g
  · exfalso
    have hh := pow_gcd q (r-1) hb hf
    rw [g, Nat.pow_one] at hh
    have hd : r ∣ a ^ k % n + (n - 1) := by
      apply (Nat.dvd_iff_mod_eq_zero).2
      rw [Nat.add_mod, Nat.mod_mod_of_dvd _ hrn, hh, ← Nat.add_mod]
      have : 1 + (n - 1) = n := by omega
      rw [this]
      exact (Nat.dvd_iff_mod_eq_zero).1 hrn
    have := Nat.dvd_gcd hd hrn
    rw [hg] at this
    have := Nat.dvd_one.1 this
    have := hr.1
    omega
  · rw [← g]; exact Nat.gcd_dvd_right _ _

/-- the least divisor that isn't 1 is a prime -/
theorem exists_pr : ∀ m : Nat, 2 ≤ m → ∃ r, Pr r ∧ r ∣ m := by
  intro m
  induction m using Nat.strongRecOn with
  | ind m ih =>
    intro hm
    by_cases h : Pr m
    · exact ⟨m, h, Nat.dvd_refl _⟩
    · have : ∃ d, d ∣ m ∧ d ≠ 1 ∧ d ≠ m := by
        apply Classical.byContradiction
        intro hn
        apply h
        refine ⟨hm, fun d hd => ?_⟩
        apply Classical.byContradiction
        intro hc
        exact hn ⟨d, hd, fun e => hc (.inl e), fun e => hc (.inr e)⟩
      obtain ⟨d, hd, h1, h2⟩ := this
      have hle := Nat.le_of_dvd (by omega) hd
      have hd0 : d ≠ 0 := by rintro rfl; have := Nat.zero_dvd.1 hd; omega
      obtain ⟨r, hr, hrd⟩ := ih d (by omega) (by omega)
      exact ⟨r, hr, Nat.dvd_trans hrd hd⟩

/-- n is a prime if each of its prime divisors is so great that two of them are more than n -/
theorem pr_of_big {n : Nat} (hn : 2 ≤ n) (h : ∀ r, Pr r → r ∣ n → n < r * r) : Pr n := by
  refine ⟨hn, fun m hm => ?_⟩
  apply Classical.byContradiction
  intro hc
  obtain ⟨k, hk⟩ := hm
  have hm1 : m ≠ 1 := fun e => hc (.inl e)
  have hmn : m ≠ n := fun e => hc (.inr e)
  have hm0 : m ≠ 0 := by rintro rfl; omega
  have hk0 : k ≠ 0 := by rintro rfl; omega
  have hk1 : k ≠ 1 := by rintro rfl; omega
  obtain ⟨r, hr, hrm⟩ := exists_pr m (by omega)
  obtain ⟨s, hs, hsk⟩ := exists_pr k (by omega)
  have h1 := h r hr (hk ▸ Nat.dvd_trans hrm (Nat.dvd_mul_right _ _))
  have h2 := h s hs (hk ▸ Nat.dvd_trans hsk (Nat.dvd_mul_left _ _))
  have h3 := Nat.le_of_dvd (by omega) hrm
  have h4 := Nat.le_of_dvd (by omega) hsk
  have h5 : r * s ≤ n := hk ▸ Nat.mul_le_mul h3 h4
  rcases Nat.le_total r s with h6 | h6
  · have := Nat.mul_le_mul_left r h6; omega
  · have := Nat.mul_le_mul_right s h6; omega

/-- trial: no d from 2 to k + 1 divides n -/
def trial (n : Nat) : Nat → Bool
  | 0 => true
  | k + 1 => (n % (k + 2) != 0) && trial n k

theorem trial_ok {n : Nat} : ∀ {k : Nat}, trial n k = true → ∀ d, 2 ≤ d → d ≤ k + 1 → ¬ d ∣ n
  | 0, _, d, h1, h2 => by omega
  | k + 1, h, d, h1, h2 => by
    simp only [trial, Bool.and_eq_true, bne_iff_ne, ne_eq] at h
    by_cases e : d = k + 2
    · subst e; intro hd; exact h.1 ((Nat.dvd_iff_mod_eq_zero).1 hd)
    · exact trial_ok h.2 d h1 (by omega)

theorem pr_of_trial {n k : Nat} (hn : 2 ≤ n) (h : trial n k = true) (hk : n < (k + 2) * (k + 2)) : Pr n := by
  refine pr_of_big hn fun r hr hd => ?_
  have : ¬ r ≤ k + 1 := fun hle => trial_ok h r hr.1 hle hd
  have : k + 2 ≤ r := by omega
  exact Nat.lt_of_lt_of_le hk (Nat.mul_le_mul this this)

/-- the power by squares, of a bound on the exponent's bits -/
def pm (a n : Nat) : Nat → Nat → Nat
  | 0, _ => 1 % n
  | f + 1, e => (pm a n f (e / 2)) ^ 2 * (if e % 2 = 1 then a else 1) % n

theorem pm_eq (a n : Nat) : ∀ f e, e < 2 ^ f → pm a n f e = a ^ e % n
  | 0, e, h => by
    have : e = 0 := by simp at h; omega
    subst this; simp [pm]
  | f + 1, e, h => by
    have hlt : e / 2 < 2 ^ f := by rw [Nat.pow_succ] at h; omega
    rw [pm, pm_eq a n f (e/2) hlt]
    have e1 : a ^ e = (a ^ (e/2)) ^ 2 * (if e % 2 = 1 then a else 1) := by
      rw [← Nat.pow_mul]
      by_cases hodd : e % 2 = 1
      · rw [if_pos hodd, ← Nat.pow_succ]; congr 1; omega
      · rw [if_neg hodd, Nat.mul_one]; congr 1; omega
    rw [e1, Nat.mul_mod, ← Nat.pow_mod, ← Nat.mul_mod]


theorem pr_two {n a q s k l f : Nat} (hn : 2 ≤ n) (hq : Pr q) (hs : Pr s) (hc : Nat.gcd q s = 1)
    (hk : n - 1 = k * q) (hl : n - 1 = l * s)
    (hf : n < 2 ^ f) (h1 : pm a n f (n-1) = 1 % n) (g1 : Nat.gcd (pm a n f k + (n-1)) n = 1)
    (g2 : Nat.gcd (pm a n f l + (n-1)) n = 1) (hb : n < (q * s + 1) * (q * s + 1)) : Pr n := by
  have hq2 := hq.1
  have hs2 := hs.1
  have hkn : k ≤ n - 1 := by rw [hk]; exact Nat.le_mul_of_pos_right k (by omega)
  have hln : l ≤ n - 1 := by rw [hl]; exact Nat.le_mul_of_pos_right l (by omega)
  rw [pm_eq _ _ _ _ (by omega)] at h1 g1 g2
  refine pr_of_big hn fun r hr hd => ?_
  have d1 := pock hr hd hq hk h1 g1 hn
  have d2 := pock hr hd hs hl h1 g2 hn
  have d3 : q * s ∣ r - 1 := Nat.Coprime.mul_dvd_of_dvd_of_dvd hc d1 d2
  have hr2 := hr.1
  have := Nat.le_of_dvd (by omega) d3
  have h3 : q * s + 1 ≤ r := by omega
  exact Nat.lt_of_lt_of_le hb (Nat.mul_le_mul h3 h3)

theorem lpr_1224481 : Pr 1224481 := pr_of_trial (k := 1107) (by decide) (by decide +kernel) (by decide +kernel)
theorem lpr_531581 : Pr 531581 := pr_of_trial (k := 730) (by decide) (by decide +kernel) (by decide +kernel)
theorem lpr_41 : Pr 41 := pr_of_trial (k := 7) (by decide) (by decide +kernel) (by decide +kernel)
theorem lpr_2851 : Pr 2851 := pr_of_trial (k := 54) (by decide) (by decide +kernel) (by decide +kernel)
theorem lpr_269 : Pr 269 := pr_of_trial (k := 17) (by decide) (by decide +kernel) (by decide +kernel)
theorem lpr_7 : Pr 7 := pr_of_trial (k := 3) (by decide) (by decide +kernel) (by decide +kernel)
theorem lpr_11 : Pr 11 := pr_of_trial (k := 4) (by decide) (by decide +kernel) (by decide +kernel)
theorem lpr_u : Pr 1257559732178653 :=
  pr_two (a := 2) (q := 1224481) (s := 531581) (k := 1257559732178652 / 1224481) (l := 1257559732178652 / 531581) (f := 64)
    (by decide) lpr_1224481 lpr_531581 (by decide +kernel) (by decide +kernel) (by decide +kernel) (by decide +kernel) (by decide +kernel) (by decide +kernel) (by decide +kernel) (by decide +kernel)
theorem lpr_t : Pr 4434155615661930479 :=
  pr_two (a := 3) (q := 41) (s := 1257559732178653) (k := 4434155615661930478 / 41) (l := 4434155615661930478 / 1257559732178653) (f := 64)
    (by decide) lpr_41 lpr_u (by decide +kernel) (by decide +kernel) (by decide +kernel) (by decide +kernel) (by decide +kernel) (by decide +kernel) (by decide +kernel) (by decide +kernel)
theorem lpr_s : Pr 172054593956031949258510691 :=
  pr_two (a := 2) (q := 2851) (s := 4434155615661930479) (k := 172054593956031949258510690 / 2851) (l := 172054593956031949258510690 / 4434155615661930479) (f := 96)
    (by decide) lpr_2851 lpr_t (by decide +kernel) (by decide +kernel) (by decide +kernel) (by decide +kernel) (by decide +kernel) (by decide +kernel) (by decide +kernel) (by decide +kernel)
theorem lpr_r : Pr 19757330305831588566944191468367130476339 :=
  pr_two (a := 2) (q := 269) (s := 172054593956031949258510691) (k := 19757330305831588566944191468367130476338 / 269) (l := 19757330305831588566944191468367130476338 / 172054593956031949258510691) (f := 136)
    (by decide) lpr_269 lpr_s (by decide +kernel) (by decide +kernel) (by decide +kernel) (by decide +kernel) (by decide +kernel) (by decide +kernel) (by decide +kernel) (by decide +kernel)
theorem lpr_q : Pr 276602624281642239937218680557139826668747 :=
  pr_two (a := 2) (q := 7) (s := 19757330305831588566944191468367130476339) (k := 276602624281642239937218680557139826668746 / 7) (l := 276602624281642239937218680557139826668746 / 19757330305831588566944191468367130476339) (f := 140)
    (by decide) lpr_7 lpr_r (by decide +kernel) (by decide +kernel) (by decide +kernel) (by decide +kernel) (by decide +kernel) (by decide +kernel) (by decide +kernel) (by decide +kernel)
theorem lpr_L : Pr 7237005577332262213973186563042994240857116359379907606001950938285454250989 :=
  pr_two (a := 2) (q := 11) (s := 276602624281642239937218680557139826668747) (k := 7237005577332262213973186563042994240857116359379907606001950938285454250988 / 11) (l := 7237005577332262213973186563042994240857116359379907606001950938285454250988 / 276602624281642239937218680557139826668747) (f := 256)
    (by decide) lpr_11 lpr_q (by decide +kernel) (by decide +kernel) (by decide +kernel) (by decide +kernel) (by decide +kernel) (by decide +kernel) (by decide +kernel) (by decide +kernel)

/-- L -/
def L : Nat := 7237005577332262213973186563042994240857116359379907606001950938285454250989
theorem L_eq : L = 2 ^ 252 + 27742317777372353535851937790883648493 := by decide +kernel
theorem pr_L : Pr L := lpr_L

end ScalarNum
