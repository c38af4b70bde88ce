
namespace FieldNum

/-- a prime number -/
def Pr (r : Nat) : Prop := 2 ≤ r ∧ ∀ m, m ∣ r → m = 1 ∨ m = r

theorem Pr.coprime {r a : Nat} (h : Pr r) (ha : ¬ r ∣ a) : Nat.gcd r a = 1 := by
  rcases h.2 (Nat.gcd r a) (Nat.gcd_dvd_left r a) with g | g
  · exact g
  · exact absurd (g ▸ Nat.gcd_dvd_right r a) ha

theorem Pr.dvd_mul {r a b : Nat} (h : Pr r) (hd : r ∣ a * b) : r ∣ a ∨ r ∣ b := by
  by_cases ha : r ∣ a
  · exact .inl ha
  · exact .inr (Nat.Coprime.dvd_of_dvd_mul_left (h.coprime ha) hd)

theorem Pr.dvd_pow {r a n : Nat} (h : Pr r) (hd : r ∣ a ^ n) : r ∣ a := by
  induction n with
  | zero =>
    have : r = 1 := Nat.dvd_one.1 (by simpa using hd)
    have := h.1; omega
  | succ n ih =>
    rw [Nat.pow_succ] at hd
    rcases h.dvd_mul hd with g | g
    · exact ih g
    · exact g

def prod : List Nat → Nat
  | [] => 1
  | x :: t => x * prod t

theorem prod_perm {l m : List Nat} (h : List.Perm l m) : prod l = prod m := by
  induction h with
  | nil => rfl
  | cons x _ ih => simp [prod, ih]
  | swap x y l => simp [prod, Nat.mul_left_comm]
  | trans _ _ h1 h2 => exact h1.trans h2

theorem perm_of {l m : List Nat} (hn : l.Nodup) (hs : ∀ x ∈ l, x ∈ m) (hl : m.length ≤ l.length) : l.Perm m := by
  induction l generalizing m with
  | nil =>
    have : m = [] := List.length_eq_zero_iff.1 (by simpa using hl)
    subst this; exact .refl _
  | cons x t ih =>
    have hx : x ∈ m := hs x (by simp)
    have hp := List.perm_cons_erase hx
    have hn' := List.nodup_cons.1 hn
    refine List.Perm.trans (.cons x (ih hn'.2 ?_ ?_)) hp.symm
    · intro y hy
      have hne : y ≠ x := by rintro rfl; exact hn'.1 hy
      exact (List.mem_erase_of_ne hne).2 (hs y (by simp [hy]))
    · rw [List.length_erase_of_mem hx]; simp at hl; omega

theorem prod_map (a r : Nat) (l : List Nat) : prod (l.map (fun x => a * x % r)) % r = a ^ l.length * prod l % r := by
  induction l with
  | nil => simp [prod]
  | cons x t ih =>
    simp only [List.map, prod, List.length_cons]
    rw [Nat.mul_mod, ih, Nat.mod_mod, ← Nat.mul_mod, Nat.pow_succ]
    congr 1
    simp only [Nat.mul_assoc, Nat.mul_left_comm, Nat.mul_comm]

theorem dvd_of_mod_eq {r x y : Nat} (h : x % r = y % r) : r ∣ x - y := by
  exact (Nat.dvd_iff_mod_eq_zero).2 (Nat.sub_mod_eq_zero_of_mod_eq h)

theorem mod_eq_of_dvd {r x y : Nat} (h : r ∣ x - y) (hle : y ≤ x) : x % r = y % r := by
  obtain ⟨k, hk⟩ := h
  have : x = y + r * k := by omega
  rw [this, Nat.add_mul_mod_self_left]

theorem Pr.cancel {r a b c : Nat} (h : Pr r) (hc : ¬ r ∣ c) (e : a * c % r = b * c % r) : a % r = b % r := by
  have key : ∀ x y : Nat, x * c % r = y * c % r → y ≤ x → x % r = y % r := by
    intro x y e hle
    have hd : r ∣ x * c - y * c := dvd_of_mod_eq e
    rw [← Nat.sub_mul] at hd
    rcases h.dvd_mul hd with g | g
    · exact mod_eq_of_dvd g hle
    · exact absurd g hc
  rcases Nat.le_total b a with hle | hle
  · exact key a b e hle
  · exact (key b a e.symm hle).symm

theorem Pr.not_dvd_of_lt {r x : Nat} (h1 : 1 ≤ x) (h2 : x < r) : ¬ r ∣ x := by
  intro h; have := Nat.le_of_dvd h1 h; omega

theorem fermat {r a : Nat} (h : Pr r) (ha : ¬ r ∣ a) : a ^ (r-1) % r = 1 := by
  have h2 := h.1
  have hm : ∀ x, x ∈ List.range' 1 (r-1) ↔ 1 ≤ x ∧ x < r := by
    intro x; rw [List.mem_range'_1]; omega
  have hp : ((List.range' 1 (r-1)).map (fun x => a * x % r)).Perm (List.range' 1 (r-1)) := by
    refine perm_of ?_ ?_ ?_
    · refine List.pairwise_map.2 ?_
      refine List.Pairwise.imp_of_mem ?_ (List.nodup_range' (s := 1) (n := r-1))
      intro x y hx hy hne e
      rw [hm] at hx hy
      rw [Nat.mul_comm a x, Nat.mul_comm a y] at e
      have := h.cancel ha e
      rw [Nat.mod_eq_of_lt hx.2, Nat.mod_eq_of_lt hy.2] at this
      exact hne this
    · intro x hx
      obtain ⟨y, hy, rfl⟩ := List.mem_map.1 hx
      rw [hm] at hy ⊢
      refine ⟨?_, Nat.mod_lt _ (by omega)⟩
      apply Nat.pos_of_ne_zero
      intro e
      rcases h.dvd_mul ((Nat.dvd_iff_mod_eq_zero).2 e) with g | g
      · exact ha g
      · exact Pr.not_dvd_of_lt hy.1 hy.2 g
    · simp
  have e := prod_perm hp
  have e2 := prod_map a r (List.range' 1 (r-1))
  rw [e] at e2
  have hc : ¬ r ∣ prod (List.range' 1 (r-1)) := by
    have : ∀ l : List Nat, (∀ x ∈ l, ¬ r ∣ x) → ¬ r ∣ prod l := by
      intro l; induction l with
      | nil => intro _ hd; have := Nat.dvd_one.1 hd; omega
      | cons x t ih =>
        intro hx hd
        rcases h.dvd_mul hd with g | g
        · exact hx x (by simp) g
        · exact ih (fun y hy => hx y (by simp [hy])) g
    refine this _ ?_
    intro x hx; rw [hm] at hx; exact Pr.not_dvd_of_lt hx.1 hx.2
  rw [List.length_range'] at e2
  have := h.cancel (a := 1) (b := a ^ (r-1)) hc (by rw [Nat.one_mul]; exact e2)
  rw [← this, Nat.mod_eq_of_lt (by omega)]

theorem pow_mul_mod_one {b r m : Nat} (h : b ^ m % r = 1 % r) (k : Nat) : b ^ (m * k) % r = 1 % r := by
  rw [Nat.pow_mul, Nat.pow_mod, h, ← Nat.pow_mod, Nat.one_pow]

theorem pow_gcd {b r : Nat} : ∀ m n : Nat, b ^ m % r = 1 % r → b ^ n % r = 1 % r → b ^ (Nat.gcd m n) % r = 1 % r := by
  intro m n
  refine Nat.gcd.induction (P := fun m n => b ^ m % r = 1 % r → b ^ n % r = 1 % r → b ^ (Nat.gcd m n) % r = 1 % r) m n ?_ ?_
  · intro n _ h; simpa using h
  · intro m n hm ih h1 h2
    rw [Nat.gcd_rec]
    refine ih ?_ h1
    have e : n = m * (n / m) + n % m := (Nat.div_add_mod n m).symm
    rw [e, Nat.pow_add, Nat.mul_mod, pow_mul_mod_one h1, ← Nat.mul_mod, Nat.one_mul] at h2
    exact h2

theorem pock {n a q r k : Nat} (hr : Pr r) (hrn : r ∣ n) (hq : Pr q) (hk : n - 1 = k * q)
    (h1 : a ^ (n - 1) % n = 1 % n) (hg : Nat.gcd (a ^ k % n + (n - 1)) n = 1) (hn : 2 ≤ n) : q ∣ r - 1 := by
  have hra : ¬ r ∣ a ^ k := by
    intro hd
    have : r ∣ a ^ (n-1) := by
      rw [hk, Nat.pow_mul]
      have : q ≠ 0 := by have := hq.1; omega
      obtain ⟨q', rfl⟩ := Nat.exists_eq_succ_of_ne_zero this
      rw [Nat.pow_succ]
      exact Nat.dvd_trans hd (Nat.dvd_mul_left _ _)
    have h0 : a ^ (n-1) % r = 0 := (Nat.dvd_iff_mod_eq_zero).1 this
    have h1' : a ^ (n-1) % r = 1 % r := by
      have := congrArg (· % r) h1
      simpa [Nat.mod_mod_of_dvd _ hrn] using this
    have := hr.1
    rw [h0, Nat.mod_eq_of_lt (by omega)] at h1'
    omega
  have hf : (a ^ k) ^ (r - 1) % r = 1 % r := by
    rw [fermat hr hra, Nat.mod_eq_of_lt hr.1]
  have hb : (a ^ k) ^ q % r = 1 % r := by
    rw [← Nat.pow_mul, ← hk]
    have := congrArg (· % r) h1
    simpa [Nat.mod_mod_of_dvd _ hrn] using this
  rcases hq.2 (Nat.gcd q (r-1)) (Nat.gcd_dvd_left _ _) with g | g
  · exfalso
    have hh := pow_gcd q (r-1) hb hf
    rw [g, Nat.pow_one] at hh
    have hd : r ∣ a ^ k % n + (n - 1) := by
      apply (Nat.dvd_iff_mod_eq_zero).2
      rw [Nat.add_mod, Nat.mod_mod_of_dvd _ hrn, hh, ← Nat.add_mod]
      have : 1 + (n - 1) = n := by omega
      rw [this]
      exact (Nat.dvd_iff_mod_eq_zero).1 hrn
    have := Nat.dvd_gcd hd hrn
    rw [hg] at this
    have := Nat.dvd_one.1 this
    have := hr.1
    omega
  · rw [← g]; exact Nat.gcd_dvd_right _ _

/-- the least divisor that isn't 1 is a prime -/
theorem exists_pr : ∀ m : Nat, 2 ≤ m → ∃ r, Pr r ∧ r ∣ m := by
  intro m
  induction m using Nat.strongRecOn with
  | ind m ih =>
    intro hm
    by_cases h : Pr m
    · exact ⟨m, h, Nat.dvd_refl _⟩
    · have : ∃ d, d ∣ m ∧ d ≠ 1 ∧ d ≠ m := by
        apply Classical.byContradiction
        intro hn
        apply h
        refine ⟨hm, fun d hd => ?_⟩
        apply Classical.byContradiction
        intro hc
        exact hn ⟨d, hd, fun e => hc (.inl e), fun e => hc (.inr e)⟩
      obtain ⟨d, hd, h1, h2⟩ := this
      have hle := Nat.le_of_dvd (by omega) hd
      have hd0 : d ≠ 0 := by rintro rfl; have := Nat.zero_dvd.1 hd; omega
      obtain ⟨r, hr, hrd⟩ := ih d (by omega) (by omega)
      exact ⟨r, hr, Nat.dvd_trans hrd hd⟩

/-- n is a prime if each of its prime divisors is so great that two of them are more than n -/
theorem pr_of_big {n : Nat} (hn : 2 ≤ n) (h : ∀ r, Pr r → r ∣ n → n < r * r) : Pr n := by
  refine ⟨hn, fun m hm => ?_⟩
  apply Classical.byContradiction
  intro hc
  obtain ⟨k, hk⟩ := hm
  have hm1 : m ≠ 1 := fun e => hc (.inl e)
  have hmn : m ≠ n := fun e => hc (.inr e)
  have hm0 : m ≠ 0 := by rintro rfl; omega
  have hk0 : k ≠ 0 := by rintro rfl; omega
  have hk1 : k ≠ 1 := by rintro rfl; omega
  obtain ⟨r, hr, hrm⟩ := exists_pr m (by omega)
  obtain ⟨s, hs, hsk⟩ := exists_pr k (by omega)
  have h1 := h r hr (hk ▸ Nat.dvd_trans hrm (Nat.dvd_mul_right _ _))
  have h2 := h s hs (hk ▸ Nat.dvd_trans hsk (Nat.dvd_mul_left _ _))
  have h3 := Nat.le_of_dvd (by omega) hrm
  have h4 := Nat.le_of_dvd (by omega) hsk
  have h5 : r * s ≤ n := hk ▸ Nat.mul_le_mul h3 h4
  rcases Nat.le_total r s with h6 | h6
  · have := Nat.mul_le_mul_left r h6; omega
  · have := Nat.mul_le_mul_right s h6; omega

/-- trial: no d from 2 to k + 1 divides n -/
def trial (n : Nat) : Nat → Bool
  | 0 => true
  | k + 1 => (n % (k + 2) != 0) && trial n k

theorem trial_ok {n : Nat} : ∀ {k : Nat}, trial n k = true → ∀ d, 2 ≤ d → d ≤ k + 1 → ¬ d ∣ n
  | 0, _, d, h1, h2 => by omega
  | k + 1, h, d, h1, h2 => by
    simp only [trial, Bool.and_eq_true, bne_iff_ne, ne_eq] at h
    by_cases e : d = k + 2
    · subst e; intro hd; exact h.1 ((Nat.dvd_iff_mod_eq_zero).1 hd)
    · exact trial_ok h.2 d h1 (by omega)

theorem pr_of_trial {n k : Nat} (hn : 2 ≤ n) (h : trial n k = true) (hk : n < (k + 2) * (k + 2)) : Pr n := by
  refine pr_of_big hn fun r hr hd => ?_
  have : ¬ r ≤ k + 1 := fun hle => trial_ok h r hr.1 hle hd
  have : k + 2 ≤ r := by omega
  exact Nat.lt_of_lt_of_le hk (Nat.mul_le_mul this this)

/-- the power by squares, of a bound on the exponent's bits -/
def pm (a n : Nat) : Nat → Nat → Nat
  | 0, _ => 1 % n
  | f + 1, e => (pm a n f (e / 2)) ^ 2 * (if e % 2 = 1 then a else 1) % n

theorem pm_eq (a n : Nat) : ∀ f e, e < 2 ^ f → pm a n f e = a ^ e % n
  | 0, e, h => by
    have : e = 0 := by simp at h; omega
    subst this; simp [pm]
  | f + 1, e, h => by
    have hlt : e / 2 < 2 ^ f := by rw [Nat.pow_succ] at h; omega
    rw [pm, pm_eq a n f (e/2) hlt]
    have e1 : a ^ e = (a ^ (e/2)) ^ 2 * (if e % 2 = 1 then a else 1) := by
      rw [← Nat.pow_mul]
      by_cases hodd : e % 2 = 1
      · rw [if_pos hodd, ← Nat.pow_succ]; congr 1; omega
      · rw [if_neg hodd, Nat.mul_one]; congr 1; omega
    rw [e1, Nat.mul_mod, ← Nat.pow_mod, ← Nat.mul_mod]

theorem pr_353 : Pr 353 := pr_of_trial (k := 20) (by decide) (by decide) (by decide)
theorem pr_127 : Pr 127 := pr_of_trial (k := 20) (by decide) (by decide) (by decide)
theorem pr_75707 : Pr 75707 := pr_of_trial (k := 300) (by decide) (by decide +kernel) (by decide)
theorem pr_8574133 : Pr 8574133 := pr_of_trial (k := 2930) (by decide) (by decide +kernel) (by decide)

theorem pr_two {n a q s k l f : Nat} (hn : 2 ≤ n) (hq : Pr q) (hs : Pr s) (hc : Nat.gcd q s = 1)
    (hk : n - 1 = k * q) (hl : n - 1 = l * s)
    (hf : n < 2 ^ f) (h1 : pm a n f (n-1) = 1 % n) (g1 : Nat.gcd (pm a n f k + (n-1)) n = 1)
    (g2 : Nat.gcd (pm a n f l + (n-1)) n = 1) (hb : n < (q * s + 1) * (q * s + 1)) : Pr n := by
  have hq2 := hq.1
  have hs2 := hs.1
  have hkn : k ≤ n - 1 := by rw [hk]; exact Nat.le_mul_of_pos_right k (by omega)
  have hln : l ≤ n - 1 := by rw [hl]; exact Nat.le_mul_of_pos_right l (by omega)
  rw [pm_eq _ _ _ _ (by omega)] at h1 g1 g2
  refine pr_of_big hn fun r hr hd => ?_
  have d1 := pock hr hd hq hk h1 g1 hn
  have d2 := pock hr hd hs hl h1 g2 hn
  have d3 : q * s ∣ r - 1 := Nat.Coprime.mul_dvd_of_dvd_of_dvd hc d1 d2
  have hr2 := hr.1
  have := Nat.le_of_dvd (by omega) d3
  have h3 : q * s + 1 ≤ r := by omega
  exact Nat.lt_of_lt_of_le hb (Nat.mul_le_mul h3 h3)

theorem pr_r0 : Pr 1919519569386763 :=
  pr_two (a := 2) (q := 127) (s := 8574133) (k := 1919519569386762 / 127) (l := 1919519569386762 / 8574133) (f := 64)
    (by decide) pr_127 pr_8574133 (by decide +kernel) (by decide +kernel) (by decide +kernel) (by decide +kernel) (by decide +kernel) (by decide +kernel) (by decide +kernel) (by decide +kernel)

theorem pr_r1 : Pr 75445702479781427272750846543864801 :=
  pr_two (a := 2) (q := 75707) (s := 1919519569386763) (k := 75445702479781427272750846543864800 / 75707) (l := 75445702479781427272750846543864800 / 1919519569386763) (f := 128)
    (by decide) pr_75707 pr_r0 (by decide +kernel) (by decide +kernel) (by decide +kernel) (by decide +kernel) (by decide +kernel) (by decide +kernel) (by decide +kernel) (by decide +kernel)

theorem pr_q : Pr 74058212732561358302231226437062788676166966415465897661863160754340907 :=
  pr_two (a := 2) (q := 353) (s := 75445702479781427272750846543864801) (k := 74058212732561358302231226437062788676166966415465897661863160754340906 / 353) (l := 74058212732561358302231226437062788676166966415465897661863160754340906 / 75445702479781427272750846543864801) (f := 256)
    (by decide) pr_353 pr_r1 (by decide +kernel) (by decide +kernel) (by decide +kernel) (by decide +kernel) (by decide +kernel) (by decide +kernel) (by decide +kernel) (by decide +kernel)

/-- p -/
def p : Nat := 57896044618658097711785492504343953926634992332820282019728792003956564819949

theorem p_eq : p = 2 ^ 255 - 19 := by decide +kernel

theorem pr_p : Pr p := by
  have hq := pr_q
  refine pr_of_big (by decide +kernel) fun r hr hd => ?_
  have h1 : 2 ^ (p - 1) % p = 1 % p := by
    rw [← pm_eq 2 p 256 (p-1) (by decide +kernel)]; decide +kernel
  have g1 : ∀ k, k = 781764 → Nat.gcd (2 ^ k % p + (p - 1)) p = 1 := by
    intro k hk
    rw [← pm_eq 2 p 256 k (by rw [hk]; decide +kernel), hk]; decide +kernel
  have d := pock hr hd hq (k := (p - 1) / 74058212732561358302231226437062788676166966415465897661863160754340907) (by decide +kernel) h1 (g1 _ (by decide +kernel)) (by decide +kernel)
  have := Nat.le_of_dvd (by have := hr.1; omega) d
  have h3 : 74058212732561358302231226437062788676166966415465897661863160754340908 ≤ r := by have := hr.1; omega
  exact Nat.lt_of_lt_of_le (by decide +kernel) (Nat.mul_le_mul h3 h3)

end FieldNum

namespace FieldNum

/-- the number of four words -/
def V (a b c d : Int) : Int := a + 18446744073709551616 * b + 340282366920938463463374607431768211456 * c + 6277101735386680763835789423207666416102355444464034512896 * d

def W (x : Int) : Prop := 0 ≤ x ∧ x < 18446744073709551616

theorem W_mod (x : Int) : W (x % 18446744073709551616) := ⟨by omega, by omega⟩

theorem V_nonneg {a b c d : Int} (ha : W a) (hb : W b) (hc : W c) (hd : W d) : 0 ≤ V a b c d := by
  unfold V W at *; omega
theorem V_lt {a b c d : Int} (ha : W a) (hb : W b) (hc : W c) (hd : W d) : V a b c d < 115792089237316195423570985008687907853269984665640564039457584007913129639936 := by
  unfold V W at *; omega

/-- the prime, as an integer -/
abbrev pI : Int := 57896044618658097711785492504343953926634992332820282019728792003956564819949

/-- what addSmall tells -/
structure AddS (x0 x1 x2 x3 s y0 y1 y2 y3 c : Int) : Prop where
  w0 : W y0
  w1 : W y1
  w2 : W y2
  w3 : W y3
  c0 : 0 ≤ c
  c1 : c ≤ 1
  eq : V y0 y1 y2 y3 + 115792089237316195423570985008687907853269984665640564039457584007913129639936 * c = V x0 x1 x2 x3 + s

theorem addS_mk {x0 x1 x2 x3 s : Int} (h0 : W x0) (h1 : W x1) (h2 : W x2) (h3 : W x3) (hs : W s) :
    AddS x0 x1 x2 x3 s ((x0 + s) % 18446744073709551616) ((x1 + (x0 + s) / 18446744073709551616) % 18446744073709551616)
      ((x2 + (x1 + (x0 + s) / 18446744073709551616) / 18446744073709551616) % 18446744073709551616)
      ((x3 + (x2 + (x1 + (x0 + s) / 18446744073709551616) / 18446744073709551616) / 18446744073709551616) % 18446744073709551616)
      ((x3 + (x2 + (x1 + (x0 + s) / 18446744073709551616) / 18446744073709551616) / 18446744073709551616) / 18446744073709551616) := by
  unfold W at *
  refine ⟨W_mod _, W_mod _, W_mod _, W_mod _, by omega, by omega, ?_⟩
  unfold V; omega

/-- canonical: three times addSmall -/
theorem canon_eq {x0 x1 x2 x3 a0 a1 a2 a3 ac b0 b1 b2 b3 bc c0 c1 c2 c3 cc : Int}
    (h0 : W x0) (h1 : W x1) (h2 : W x2) (h3 : W x3)
    (A : AddS x0 x1 x2 (x3 % 9223372036854775808) (19 * (x3 / 9223372036854775808)) a0 a1 a2 a3 ac)
    (Bb : AddS a0 a1 a2 a3 19 b0 b1 b2 b3 bc)
    (C : AddS a0 a1 a2 a3 (19 * (b3 / 9223372036854775808)) c0 c1 c2 c3 cc) :
    V c0 c1 c2 (c3 % 9223372036854775808) = V x0 x1 x2 x3 % pI := by
  obtain ⟨A0, A1, A2, A3, Ac0, Ac1, Ae⟩ := A
  obtain ⟨B0, B1, B2, B3, Bc0, Bc1, Be⟩ := Bb
  obtain ⟨C0, C1, C2, C3, Cc0, Cc1, Ce⟩ := C
  unfold W at *
  have hx : x3 / 9223372036854775808 = 0 ∨ x3 / 9223372036854775808 = 1 := by omega
  have hb : b3 / 9223372036854775808 = 0 ∨ b3 / 9223372036854775808 = 1 := by omega
  have hc : c3 / 9223372036854775808 = 0 ∨ c3 / 9223372036854775808 = 1 := by omega
  have ex : x3 % 9223372036854775808 = x3 - 9223372036854775808 * (x3 / 9223372036854775808) := by omega
  have ec : c3 % 9223372036854775808 = c3 - 9223372036854775808 * (c3 / 9223372036854775808) := by omega
  have lx : 0 ≤ x3 % 9223372036854775808 ∧ x3 % 9223372036854775808 < 9223372036854775808 := by omega
  have lc : 0 ≤ c3 % 9223372036854775808 ∧ c3 % 9223372036854775808 < 9223372036854775808 := by omega
  have lb : 9223372036854775808 * (b3 / 9223372036854775808) ≤ b3 ∧ b3 < 9223372036854775808 * (b3 / 9223372036854775808) + 9223372036854775808 := by omega
  rw [ex] at Ae lx
  rw [ec] at lc ⊢
  generalize x3 / 9223372036854775808 = h at *
  generalize b3 / 9223372036854775808 = r at *
  generalize c3 / 9223372036854775808 = t at *
  have hac : ac = 0 := by
    unfold V at *
    rcases hx with rfl | rfl <;> omega
  subst hac
  have hbc : bc = 0 := by
    unfold V at *
    rcases hx with rfl | rfl <;> omega
  subst hbc
  have hcc : cc = 0 := by
    unfold V at *
    rcases hx with rfl | rfl <;> rcases hb with rfl | rfl <;> omega
  subst hcc
  have key : V c0 c1 c2 (c3 - 9223372036854775808 * t) + pI * (h + t) = V x0 x1 x2 x3 ∧ 0 ≤ V c0 c1 c2 (c3 - 9223372036854775808 * t) ∧ V c0 c1 c2 (c3 - 9223372036854775808 * t) < pI := by
    unfold V pI at *
    rcases hx with rfl | rfl <;> rcases hb with rfl | rfl <;> rcases hc with rfl | rfl <;> omega
  obtain ⟨k1, k2, k3⟩ := key
  rw [← k1, Int.add_mul_emod_self_left, Int.emod_eq_of_lt k2 k3]

theorem plusHigh_eq {x0 x1 x2 x3 h y0 y1 y2 y3 c : Int} (h0 : W x0) (h1 : W x1) (h2 : W x2) (h3 : W x3) (hh0 : 0 ≤ h) (hh : h ≤ 38)
    (A : AddS x0 x1 x2 x3 (38 * h) y0 y1 y2 y3 c) :
    W (y0 + 38 * c) ∧ V (y0 + 38 * c) y1 y2 y3 % pI = (V x0 x1 x2 x3 + 115792089237316195423570985008687907853269984665640564039457584007913129639936 * h) % pI := by
  obtain ⟨A0, A1, A2, A3, Ac0, Ac1, Ae⟩ := A
  unfold W V pI at *
  constructor <;> omega

/-- a borrow -/
def bor (x y : Int) : Int := if x < y then 1 else 0

theorem bor_01 (x y : Int) : 0 ≤ bor x y ∧ bor x y ≤ 1 := by unfold bor; split <;> decide

/-- what one difference tells -/
theorem bor_eq {x y b : Int} (hx : W x) (hy : W y) (hb : 0 ≤ b ∧ b ≤ 1) :
    W ((x - y - b) % 18446744073709551616) ∧ (x - y - b) % 18446744073709551616 = x - y - b + 18446744073709551616 * bor x (y + b) := by
  unfold W bor at *
  split <;> omega

/-- sums word by word -/
theorem plus_eq {x0 x1 x2 x3 y0 y1 y2 y3 : Int} (h0 : W x0) (h1 : W x1) (h2 : W x2) (h3 : W x3) (g0 : W y0) (g1 : W y1) (g2 : W y2) (g3 : W y3) :
    ∃ z0 z1 z2 z3 c0 c1 c2 c : Int,
      (x0 + y0) % 18446744073709551616 = z0 ∧ (x0 + y0) / 18446744073709551616 = c0 ∧
      (x1 + y1 + c0) % 18446744073709551616 = z1 ∧ (x1 + y1 + c0) / 18446744073709551616 = c1 ∧
      (x2 + y2 + c1) % 18446744073709551616 = z2 ∧ (x2 + y2 + c1) / 18446744073709551616 = c2 ∧
      (x3 + y3 + c2) % 18446744073709551616 = z3 ∧ (x3 + y3 + c2) / 18446744073709551616 = c ∧
      W z0 ∧ W z1 ∧ W z2 ∧ W z3 ∧ (0 ≤ c0 ∧ c0 ≤ 1) ∧ (0 ≤ c1 ∧ c1 ≤ 1) ∧ (0 ≤ c2 ∧ c2 ≤ 1) ∧ (0 ≤ c ∧ c ≤ 1) ∧
      V z0 z1 z2 z3 + 115792089237316195423570985008687907853269984665640564039457584007913129639936 * c = V x0 x1 x2 x3 + V y0 y1 y2 y3 := by
  refine ⟨_, _, _, _, _, _, _, _, rfl, rfl, rfl, rfl, rfl, rfl, rfl, rfl, W_mod _, W_mod _, W_mod _, W_mod _, ?_⟩
  unfold W at *
  refine ⟨by omega, by omega, by omega, by omega, ?_⟩
  unfold V; omega

/-- differences word by word -/
theorem minus_eq {x0 x1 x2 x3 y0 y1 y2 y3 : Int} (h0 : W x0) (h1 : W x1) (h2 : W x2) (h3 : W x3) (g0 : W y0) (g1 : W y1) (g2 : W y2) (g3 : W y3) :
    ∃ z0 z1 z2 z3 c0 c1 c2 c : Int,
      (x0 - y0) % 18446744073709551616 = z0 ∧ bor x0 y0 = c0 ∧
      (x1 - y1 - c0) % 18446744073709551616 = z1 ∧ bor x1 (y1 + c0) = c1 ∧
      (x2 - y2 - c1) % 18446744073709551616 = z2 ∧ bor x2 (y2 + c1) = c2 ∧
      (x3 - y3 - c2) % 18446744073709551616 = z3 ∧ bor x3 (y3 + c2) = c ∧
      W z0 ∧ W z1 ∧ W z2 ∧ W z3 ∧ (0 ≤ c0 ∧ c0 ≤ 1) ∧ (0 ≤ c1 ∧ c1 ≤ 1) ∧ (0 ≤ c2 ∧ c2 ≤ 1) ∧ (0 ≤ c ∧ c ≤ 1) ∧
      V z0 z1 z2 z3 = V x0 x1 x2 x3 - V y0 y1 y2 y3 + 115792089237316195423570985008687907853269984665640564039457584007913129639936 * c := by
  have e0 := bor_eq h0 g0 (b := 0) (by decide)
  simp only [Int.sub_zero, Int.add_zero] at e0
  have e1 := bor_eq h1 g1 (bor_01 x0 y0)
  have e2 := bor_eq h2 g2 (bor_01 x1 (y1 + bor x0 y0))
  have e3 := bor_eq h3 g3 (bor_01 x2 (y2 + bor x1 (y1 + bor x0 y0)))
  refine ⟨_, _, _, _, _, _, _, _, rfl, rfl, rfl, rfl, rfl, rfl, rfl, rfl, W_mod _, W_mod _, W_mod _, W_mod _, bor_01 _ _, bor_01 _ _, bor_01 _ _, bor_01 _ _, ?_⟩
  rw [e0.2, e1.2, e2.2, e3.2]
  unfold V; omega

/-- a borrow that is paid back -/
theorem minusBack_eq {x0 x1 x2 x3 y0 y1 y2 y3 z0 z1 z2 z3 b u0 u1 u2 u3 c : Int}
    (hz0 : W z0) (hz1 : W z1) (hz2 : W z2) (hz3 : W z3) (hb : 0 ≤ b ∧ b ≤ 1) (ez : V z0 z1 z2 z3 = V x0 x1 x2 x3 - V y0 y1 y2 y3 + 115792089237316195423570985008687907853269984665640564039457584007913129639936 * b)
    (hu0 : W u0) (hu1 : W u1) (hu2 : W u2) (hu3 : W u3) (hc : 0 ≤ c ∧ c ≤ 1) (eu : V u0 u1 u2 u3 = V z0 z1 z2 z3 - V (38 * b) 0 0 0 + 115792089237316195423570985008687907853269984665640564039457584007913129639936 * c) :
    W (u0 - 38 * c) ∧ (V (u0 - 38 * c) u1 u2 u3 + V y0 y1 y2 y3) % pI = V x0 x1 x2 x3 % pI := by
  have key : W (u0 - 38 * c) ∧ V (u0 - 38 * c) u1 u2 u3 + V y0 y1 y2 y3 = V x0 x1 x2 x3 + pI * (2 * (b + c)) := by
    have hb' : b = 0 ∨ b = 1 := by omega
    have hc' : c = 0 ∨ c = 1 := by omega
    generalize V x0 x1 x2 x3 = X at *
    generalize V y0 y1 y2 y3 = Y at *
    unfold W V pI at *
    rcases hb' with rfl | rfl <;> rcases hc' with rfl | rfl <;> constructor <;> omega
  refine ⟨key.1, ?_⟩
  rw [key.2, Int.add_mul_emod_self_left]

theorem mul_W {a b : Int} (ha : W a) (hb : W b) : 0 ≤ a * b ∧ a * b ≤ 18446744073709551615 * 18446744073709551615 := by
  obtain ⟨a0, a1⟩ := ha; obtain ⟨b0, b1⟩ := hb
  refine ⟨Int.mul_nonneg a0 b0, ?_⟩
  exact Int.mul_le_mul (by omega) (by omega) b0 (by decide)

/-- what addProduct tells -/
theorem addProduct_eq {s a b c : Int} (hs : W s) (ha : W a) (hb : W b) (hc : W c) :
    ∃ m hi lo l1 o1 h1 l2 o2 h2 : Int, a * b = m ∧ m / 18446744073709551616 = hi ∧ m % 18446744073709551616 = lo ∧
      (lo + s) % 18446744073709551616 = l1 ∧ (lo + s) / 18446744073709551616 = o1 ∧ hi + o1 = h1 ∧
      (l1 + c) % 18446744073709551616 = l2 ∧ (l1 + c) / 18446744073709551616 = o2 ∧ h1 + o2 = h2 ∧
      W hi ∧ W lo ∧ W l1 ∧ W l2 ∧ W h1 ∧ W h2 ∧ (0 ≤ o1 ∧ o1 ≤ 1) ∧ (0 ≤ o2 ∧ o2 ≤ 1) ∧ l2 + 18446744073709551616 * h2 = s + a * b + c := by
  have hm := mul_W ha hb
  refine ⟨_, _, _, _, _, _, _, _, _, rfl, rfl, rfl, rfl, rfl, rfl, rfl, rfl, rfl, ?_⟩
  generalize a * b = m at *
  unfold W at *
  refine ⟨by omega, by omega, by omega, by omega, by omega, by omega, by omega, by omega, ?_⟩
  omega

theorem addRow_eq {s0 s1 s2 s3 a x0 x1 x2 x3 t0 t1 t2 t3 t4 c0 c1 c2 : Int}
    (e0 : t0 + 18446744073709551616 * c0 = s0 + a * x0 + 0) (e1 : t1 + 18446744073709551616 * c1 = s1 + a * x1 + c0)
    (e2 : t2 + 18446744073709551616 * c2 = s2 + a * x2 + c1) (e3 : t3 + 18446744073709551616 * t4 = s3 + a * x3 + c2) :
    V t0 t1 t2 t3 + 115792089237316195423570985008687907853269984665640564039457584007913129639936 * t4 = V s0 s1 s2 s3 + a * V x0 x1 x2 x3 := by
  have : a * V x0 x1 x2 x3 = a * x0 + 18446744073709551616 * (a * x1) + 340282366920938463463374607431768211456 * (a * x2) + 6277101735386680763835789423207666416102355444464034512896 * (a * x3) := by
    unfold V; simp only [Int.mul_add, Int.mul_left_comm]
  rw [this]
  unfold V; omega

theorem times_eq {x0 x1 x2 x3 Y w0 a1 a2 a3 a4 w1 b2 b3 b4 b5 w2 c3 c4 c5 c6 w3 d4 d5 d6 d7 t0 t1 t2 t3 t4 : Int}
    (e0 : V w0 a1 a2 a3 + 115792089237316195423570985008687907853269984665640564039457584007913129639936 * a4 = V 0 0 0 0 + x0 * Y)
    (e1 : V w1 b2 b3 b4 + 115792089237316195423570985008687907853269984665640564039457584007913129639936 * b5 = V a1 a2 a3 a4 + x1 * Y)
    (e2 : V w2 c3 c4 c5 + 115792089237316195423570985008687907853269984665640564039457584007913129639936 * c6 = V b2 b3 b4 b5 + x2 * Y)
    (e3 : V w3 d4 d5 d6 + 115792089237316195423570985008687907853269984665640564039457584007913129639936 * d7 = V c3 c4 c5 c6 + x3 * Y)
    (e4 : V t0 t1 t2 t3 + 115792089237316195423570985008687907853269984665640564039457584007913129639936 * t4 = V w0 w1 w2 w3 + 38 * V d4 d5 d6 d7) :
    (V t0 t1 t2 t3 + 115792089237316195423570985008687907853269984665640564039457584007913129639936 * t4) % pI = (V x0 x1 x2 x3 * Y) % pI := by
  have : V x0 x1 x2 x3 * Y = x0 * Y + 18446744073709551616 * (x1 * Y) + 340282366920938463463374607431768211456 * (x2 * Y) + 6277101735386680763835789423207666416102355444464034512896 * (x3 * Y) := by
    unfold V; simp only [Int.add_mul, Int.mul_assoc]
  have h : V x0 x1 x2 x3 * Y = V t0 t1 t2 t3 + 115792089237316195423570985008687907853269984665640564039457584007913129639936 * t4 + pI * (2 * V d4 d5 d6 d7) := by
    rw [this, e4]
    generalize x0 * Y = m0 at *
    generalize x1 * Y = m1 at *
    generalize x2 * Y = m2 at *
    generalize x3 * Y = m3 at *
    unfold V pI at *
    omega
  rw [h, Int.add_mul_emod_self_left]

theorem t4_le {w0 w1 w2 w3 d t0 t1 t2 t3 t4 : Int} (h0 : W w0) (h1 : W w1) (h2 : W w2) (h3 : W w3) (g0 : W t0) (g1 : W t1) (g2 : W t2) (g3 : W t3)
    (hd : d < 115792089237316195423570985008687907853269984665640564039457584007913129639936)
    (e4 : V t0 t1 t2 t3 + 115792089237316195423570985008687907853269984665640564039457584007913129639936 * t4 = V w0 w1 w2 w3 + 38 * d) : t4 ≤ 38 := by
  unfold W V at *; omega

end FieldNum

namespace FieldNum

theorem p_pos : 0 < p := by decide +kernel
theorem p_big : 2 ≤ p := by decide +kernel
theorem one_lt_p : 1 < p := by decide +kernel
theorem lt256 {n : Nat} (h : n < p) : n < 115792089237316195423570985008687907853269984665640564039457584007913129639936 := by
  have : p = 57896044618658097711785492504343953926634992332820282019728792003956564819949 := rfl
  omega
theorem mod_lt256 (n : Nat) : n % p < 115792089237316195423570985008687907853269984665640564039457584007913129639936 := lt256 (Nat.mod_lt _ p_pos)

/-- a - b modulo p -/
def sb (a b : Nat) : Nat := (a + (p - b % p)) % p
/-- -a modulo p -/
def ng (a : Nat) : Nat := sb 0 a

theorem sb_lt (a b : Nat) : sb a b < p := Nat.mod_lt _ p_pos
theorem ng_lt (a : Nat) : ng a < p := Nat.mod_lt _ p_pos

theorem sb_add (a b : Nat) : (sb a b + b) % p = a % p := by
  unfold sb
  rw [Nat.mod_add_mod]
  have h1 : b % p < p := Nat.mod_lt _ p_pos
  have h2 : b = b % p + p * (b / p) := (Nat.mod_add_div b p).symm
  have : a + (p - b % p) + b = a + p * (1 + b / p) := by
    generalize hq : b / p = q at *
    generalize hr : b % p = r at *
    rw [h2, Nat.mul_add, Nat.mul_one]; omega
  rw [this, Nat.add_mul_mod_self_left]

theorem add_cancel {x y c : Nat} (h : (x + c) % p = (y + c) % p) : x % p = y % p := by
  have key : ∀ x y : Nat, (x + c) % p = (y + c) % p → y ≤ x → x % p = y % p := by
    intro x y h hle
    have hd := dvd_of_mod_eq h
    have e : x + c - (y + c) = x - y := by omega
    rw [e] at hd
    exact mod_eq_of_dvd hd hle
  rcases Nat.le_total y x with hle | hle
  · exact key x y h hle
  · exact (key y x h.symm hle).symm

theorem sb_uniq {z a b : Nat} (hz : z < p) (h : (z + b) % p = a % p) : z = sb a b := by
  have := add_cancel (h.trans (sb_add a b).symm)
  rwa [Nat.mod_eq_of_lt hz, Nat.mod_eq_of_lt (sb_lt a b)] at this

theorem sb_mod (a b : Nat) : sb (a % p) b = sb a b := by unfold sb; rw [Nat.mod_add_mod]
theorem sb_mod' (a b : Nat) : sb a (b % p) = sb a b := by unfold sb; rw [Nat.mod_mod]
theorem ng_mod (a : Nat) : ng (a % p) = ng a := sb_mod' 0 a

theorem sub_back (a b : Nat) : sb ((a + b) % p) b = a % p :=
  (sb_uniq (Nat.mod_lt _ p_pos) (by rw [Nat.mod_add_mod, Nat.mod_mod])).symm
theorem add_ng (a : Nat) : (a + ng a) % p = 0 := by
  have := sb_add 0 a
  rw [Nat.add_comm]; simpa [ng] using this
theorem ng_mul (a b : Nat) : ng a * b % p = ng (a * b % p) := by
  apply sb_uniq (Nat.mod_lt _ p_pos)
  rw [← Nat.add_mod, ← Nat.add_mul, Nat.mul_mod, Nat.add_comm, add_ng]; simp
theorem ng_zero : ng 0 = 0 := by decide +kernel
theorem ng_eq_zero {a : Nat} (h : ng a = 0) : a % p = 0 := by
  have := add_ng a
  rw [h] at this; simpa using this
theorem ng_ng (a : Nat) : ng (ng a) = a % p := by
  refine (sb_uniq (Nat.mod_lt _ p_pos) ?_).symm
  rw [Nat.mod_add_mod, add_ng]; rfl

/-- the inverse -/
def inv (a : Nat) : Nat := a ^ (p - 2) % p
theorem inv_lt (a : Nat) : inv a < p := Nat.mod_lt _ p_pos

theorem pow_mod_p (a n : Nat) : (a % p) ^ n % p = a ^ n % p := (Nat.pow_mod a n p).symm

theorem mul_inv {a : Nat} (h : a % p ≠ 0) : a * inv a % p = 1 := by
  unfold inv
  rw [Nat.mul_mod_mod, Nat.mul_comm, ← Nat.pow_succ]
  have e : (p - 2).succ = p - 1 := by decide +kernel
  rw [e]
  exact fermat pr_p (fun hd => h ((Nat.dvd_iff_mod_eq_zero).1 hd))
theorem inv_of_zero {a : Nat} (h : a % p = 0) : inv a = 0 := by
  unfold inv
  rw [← pow_mod_p, h, Nat.zero_pow (by decide +kernel)]; rfl
theorem inv_mod (a : Nat) : inv (a % p) = inv a := by unfold inv; rw [pow_mod_p]
theorem inv_mul (a b : Nat) : inv (a * b % p) = inv a * inv b % p := by
  rw [inv_mod]; unfold inv
  rw [← Nat.mul_mod, Nat.mul_pow]
theorem inv_ne {a : Nat} (h : a % p ≠ 0) : inv a % p ≠ 0 := by
  intro h0
  have := mul_inv h
  rw [Nat.mul_mod, h0] at this
  simp at this
theorem inv_inv (a : Nat) : inv (inv a) = a % p := by
  by_cases h : a % p = 0
  · rw [inv_of_zero h, h, inv_of_zero (by decide +kernel)]
  · have h1 := mul_inv h
    have h2 := mul_inv (inv_ne h)
    have h3 : inv (inv a) * inv a % p = a * inv a % p := by rw [h1, Nat.mul_comm, h2]
    have h4 : ¬ p ∣ inv a := fun hd => inv_ne h ((Nat.dvd_iff_mod_eq_zero).1 hd)
    have := pr_p.cancel h4 h3
    rwa [Nat.mod_eq_of_lt (inv_lt _)] at this
theorem inv_uniq {a x : Nat} (hx : x < p) (h : a * x % p = 1) : x = inv a := by
  have ha : a % p ≠ 0 := by
    intro h0; rw [Nat.mul_mod, h0] at h; simp at h
  have h1 := mul_inv ha
  have h4 : ¬ p ∣ a := fun hd => ha ((Nat.dvd_iff_mod_eq_zero).1 hd)
  have := pr_p.cancel h4 (a := x) (b := inv a) (by rw [Nat.mul_comm, h, Nat.mul_comm, h1])
  rwa [Nat.mod_eq_of_lt (inv_lt _), Nat.mod_eq_of_lt hx] at this
theorem half_twice : (inv 2 + inv 2) % p = 1 := by
  have : inv 2 + inv 2 = 2 * inv 2 := by omega
  rw [this]; exact mul_inv (by decide +kernel)

/-- the half power: Euler's -/
def hp (a : Nat) : Nat := a ^ ((p - 1) / 2) % p
theorem hp_def (a : Nat) : hp a = a ^ ((p - 1) / 2) % p := rfl
theorem hp_pm (a : Nat) : hp a = pm a p 256 ((p - 1) / 2) := (hp_def a).trans (pm_eq a p 256 ((p - 1) / 2) (by decide +kernel)).symm
theorem hp_mod (a : Nat) : hp (a % p) = hp a := by unfold hp; rw [pow_mod_p]
theorem hp_sq {a : Nat} (h : a % p ≠ 0) : hp a * hp a % p = 1 := by
  unfold hp
  rw [← Nat.mul_mod, ← Nat.pow_two, ← Nat.pow_mul]
  have e : (p - 1) / 2 * 2 = p - 1 := by decide +kernel
  rw [e]
  exact fermat pr_p (fun hd => h ((Nat.dvd_iff_mod_eq_zero).1 hd))
theorem hp_zero {a : Nat} (h : a % p = 0) : hp a = 0 := by
  unfold hp
  rw [← pow_mod_p, h, Nat.zero_pow (by decide +kernel)]; rfl
theorem sq_one {x : Nat} (hx : x < p) (h : x * x % p = 1) : x = 1 ∨ x = p - 1 := by
  have h0 : x ≠ 0 := by rintro rfl; simp at h
  have hd : p ∣ (x - 1) * (x + 1) := by
    have e : (x - 1) * (x + 1) = x * x - 1 := by
      obtain ⟨y, rfl⟩ := Nat.exists_eq_succ_of_ne_zero h0
      simp only [Nat.succ_eq_add_one, Nat.add_sub_cancel, Nat.mul_add, Nat.add_mul]; omega
    rw [e]
    apply dvd_of_mod_eq
    rw [h]; decide +kernel
  rcases pr_p.dvd_mul hd with g | g
  · left
    have := Nat.eq_zero_of_dvd_of_lt g (by omega)
    omega
  · right
    have := Nat.le_of_dvd (by omega) g
    omega
theorem hp_cases (a : Nat) : (a % p = 0 ∧ hp a = 0) ∨ (a % p ≠ 0 ∧ (hp a = 1 ∨ hp a = p - 1)) := by
  by_cases h : a % p = 0
  · exact .inl ⟨h, hp_zero h⟩
  · exact .inr ⟨h, sq_one (Nat.mod_lt _ p_pos) (hp_sq h)⟩
theorem hp_mul (a b : Nat) : hp (a * b % p) = hp a * hp b % p := by
  rw [hp_mod]; unfold hp
  rw [← Nat.mul_mod, Nat.mul_pow]
theorem hp_neg_one : hp (p - 1) = 1 := (hp_pm (p - 1)).trans (by decide +kernel)
theorem hp_two : hp 2 = p - 1 := (hp_pm 2).trans (by decide +kernel)

/-- Legendre's symbol -/
def leg (a : Nat) : Int := if hp a = 0 then 0 else if hp a = 1 then 1 else -1
theorem leg_zero_iff (a : Nat) : leg a = 0 ↔ a % p = 0 := by
  unfold leg
  rcases hp_cases a with ⟨h, e⟩ | ⟨h, e | e⟩
  · simp [h, e]
  · simp [h, e]
  · have : p - 1 ≠ 0 := by decide +kernel
    have : p - 1 ≠ 1 := by decide +kernel
    simp [*]
theorem leg_mul (a b : Nat) : leg (a * b % p) = leg a * leg b := by
  unfold leg
  rw [hp_mul]
  have k1 : p - 1 ≠ 0 := by decide +kernel
  have k2 : p - 1 ≠ 1 := by decide +kernel
  have k3 : (p - 1) * (p - 1) % p = 1 := by decide +kernel
  have k4 : (p - 1) % p = p - 1 := by decide +kernel
  have k5 : 1 % p = 1 := by decide +kernel
  rcases hp_cases a with ⟨h, e⟩ | ⟨h, e | e⟩ <;> rcases hp_cases b with ⟨h', e'⟩ | ⟨h', e' | e'⟩ <;> simp [e, e', k1, k2, k3, k4, k5]
theorem leg_mod (a : Nat) : leg (a % p) = leg a := by unfold leg; rw [hp_mod]
theorem leg_neg_one : leg (p - 1) = 1 := by unfold leg; rw [hp_neg_one]; rfl
theorem leg_two : leg 2 = -1 := by
  unfold leg; rw [hp_two]
  have k1 : p - 1 ≠ 0 := by decide +kernel
  have k2 : p - 1 ≠ 1 := by decide +kernel
  simp [k1, k2]
end FieldNum

namespace FieldNum

/-- the quarter power -/
def fq (x : Nat) : Nat := x ^ ((p - 1) / 4) % p
theorem fq_lt (x : Nat) : fq x < p := Nat.mod_lt _ p_pos
theorem fq_sq (x : Nat) : fq x * fq x % p = hp x := by
  unfold fq hp
  rw [← Nat.mul_mod, ← Nat.pow_add]
  exact congrArg (fun n => x ^ n % p) (by decide +kernel)
/-- the power that a root is made of -/
def rp (x : Nat) : Nat := x ^ ((p - 5) / 8) % p
theorem rp_lt (x : Nat) : rp x < p := Nat.mod_lt _ p_pos
theorem rp_mod (x : Nat) : rp (x % p) = rp x := by unfold rp; rw [pow_mod_p]

theorem mcong {a b c d : Nat} (h1 : a % p = b % p) (h2 : c % p = d % p) : a * c % p = b * d % p := by rw [Nat.mul_mod, h1, h2, ← Nat.mul_mod]

theorem sq7 (u v t : Nat) : v * ((u * v ^ 3 * t) * (u * v ^ 3 * t)) = u * ((u * v ^ 7) * (t * t)) := by grind

theorem root_sq {u v w r s : Nat} (hw : w % p = u * v ^ 7 % p) (hr : r % p = u * v ^ 3 * rp w % p) (hs : s % p = v * (r * r) % p) : s % p = u * fq (u * v ^ 7) % p := by
  have e1 : s % p = v * ((u * v ^ 3 * rp w) * (u * v ^ 3 * rp w)) % p := hs.trans (mcong rfl (mcong hr hr))
  have e3 : rp w * rp w % p = (u * v ^ 7) ^ ((p - 5) / 8 + (p - 5) / 8) % p := by
    unfold rp
    rw [← Nat.mul_mod, ← Nat.pow_add, Nat.pow_mod, hw, ← Nat.pow_mod]
  have e4 : (u * v ^ 7) * (rp w * rp w) % p = fq (u * v ^ 7) % p := by
    rw [Nat.mul_mod, e3, ← Nat.mul_mod, Nat.mul_comm, ← Nat.pow_succ]
    unfold fq
    rw [Nat.mod_mod]
    exact congrArg (fun n => (u * v ^ 7) ^ n % p) (by decide +kernel)
  rw [e1, sq7]
  exact mcong rfl e4

theorem hp_one_ne {x : Nat} (h : hp x = 1) : x % p ≠ 0 := by
  intro h0; rw [hp_zero h0] at h; exact absurd h (by decide)

theorem seven (u v : Nat) : u * v ^ 7 = (u * v) * (v ^ 3 * v ^ 3) := by grind
theorem mul_ne {a b : Nat} (h1 : a % p ≠ 0) (h2 : b % p ≠ 0) : a * b % p ≠ 0 := by
  intro h
  rcases pr_p.dvd_mul (Nat.dvd_iff_mod_eq_zero.2 h) with g | g
  · exact h1 (Nat.dvd_iff_mod_eq_zero.1 g)
  · exact h2 (Nat.dvd_iff_mod_eq_zero.1 g)
theorem ne_of_mul {a b : Nat} (h : a * b % p ≠ 0) : a % p ≠ 0 ∧ b % p ≠ 0 := by
  constructor
  · intro h0; apply h; rw [Nat.mul_mod, h0]; simp
  · intro h0; apply h; rw [Nat.mul_mod, h0]; simp
theorem hp_mul' (a b : Nat) : hp (a * b) = hp a * hp b % p := by rw [← hp_mod, hp_mul]
theorem hp_sq1 {a : Nat} (h : a % p ≠ 0) : hp (a * a) = 1 := by rw [hp_mul', hp_sq h]
theorem hp_lt' (a : Nat) : hp a < p := Nat.mod_lt _ p_pos
theorem hp_uv7 {u v : Nat} (hv : v % p ≠ 0) : hp (u * v ^ 7) = hp (u * v) := by
  rw [seven, hp_mul', hp_sq1, Nat.mul_one, Nat.mod_eq_of_lt (hp_lt' _)]
  have : v ^ 3 = v * (v * v) := by grind
  rw [this]
  exact mul_ne hv (mul_ne hv hv)
theorem pow7_ne {u v : Nat} (h : u * v ^ 7 % p ≠ 0) : v % p ≠ 0 := by
  intro h0
  apply (ne_of_mul h).2
  have : v ^ 7 = v * v ^ 6 := by grind
  rw [this, Nat.mul_mod, h0]; simp

theorem cancel_u {u x y : Nat} (hu : u % p ≠ 0) (hx : x < p) (hy : y < p) (h : u * x % p = u * y % p) : x = y := by
  have h4 : ¬ p ∣ u := fun hd => hu (Nat.dvd_iff_mod_eq_zero.1 hd)
  have := pr_p.cancel h4 (a := x) (b := y) (by rw [Nat.mul_comm x, Nat.mul_comm y]; exact h)
  rwa [Nat.mod_eq_of_lt hx, Nat.mod_eq_of_lt hy] at this

theorem p1_lt : p - 1 < p := by decide +kernel
theorem mul_p1 (u : Nat) : u * (p - 1) % p = ng u := by
  apply sb_uniq (Nat.mod_lt _ p_pos)
  rw [Nat.mod_add_mod]
  have : u * (p - 1) + u = u * p := by
    have h := p_pos
    generalize p = q at *
    obtain ⟨k, rfl⟩ : ∃ k, q = k + 1 := ⟨q - 1, by omega⟩
    rw [Nat.add_sub_cancel, Nat.mul_add, Nat.mul_one]
  rw [this, Nat.mul_mod_left]; rfl

/-- is there a root of u/v? -/
abbrev rok (u v : Nat) : Prop := u % p = 0 ∨ hp (u * v) = 1

theorem root_found {u v s : Nat} (h : rok u v) (hs : s % p = u * fq (u * v ^ 7) % p) : s % p = u % p ∨ s % p = ng u := by
  rcases h with h | h
  · left; rw [hs, Nat.mul_mod, h]; simp
  · have hn := hp_one_ne h
    have hv := (ne_of_mul hn).2
    have h1 : fq (u * v ^ 7) * fq (u * v ^ 7) % p = 1 := by rw [fq_sq, hp_uv7 hv, h]
    rcases sq_one (fq_lt _) h1 with e | e
    · left; rw [hs, e, Nat.mul_one]
    · right; rw [hs, e, mul_p1]

theorem root_none {u v s : Nat} (h : ¬ rok u v) (hs : s % p = u * fq (u * v ^ 7) % p) : s % p ≠ u % p ∧ s % p ≠ ng u := by
  have hu : u % p ≠ 0 := fun e => h (.inl e)
  have key : fq (u * v ^ 7) * fq (u * v ^ 7) % p ≠ 1 := by
    intro e
    rw [fq_sq] at e
    exact h (.inr ((hp_uv7 (pow7_ne (hp_one_ne e))).symm.trans e))
  constructor
  · intro e
    have : fq (u * v ^ 7) = 1 := cancel_u hu (fq_lt _) one_lt_p (by rw [← hs, e, Nat.mul_one])
    apply key; rw [this]; decide +kernel
  · intro e
    have : fq (u * v ^ 7) = p - 1 := cancel_u hu (fq_lt _) p1_lt (by rw [← hs, e, mul_p1])
    apply key; rw [this]; decide +kernel

/-- the root of -1 -/
def Im : Nat := 19681161376707505956807079304988542015446066515923890162744021073123829784752
theorem Im_sq : Im * Im % p = p - 1 := by decide +kernel
theorem im_sq (v r : Nat) : v * ((r * Im) * (r * Im)) = v * (r * r) * (Im * Im) := by grind
theorem root_turn {u v r t : Nat} (h : v * (r * r) % p = ng u) (ht : t % p = r * Im % p) : v * (t * t) % p = u % p := by
  rw [mcong rfl (mcong ht ht), im_sq, Nat.mul_mod, h, Im_sq, mul_p1, ng_ng]

theorem ng_even {r : Nat} (h : r % p % 2 = 1) : ng r % 2 = 0 ∧ ng r < p := by
  refine ⟨?_, ng_lt r⟩
  have hp2 : p % 2 = 1 := by decide +kernel
  have hl : r % p < p := Nat.mod_lt _ p_pos
  unfold ng sb
  generalize r % p = x at *
  generalize p = q at *
  have e : (0 + (q - x)) % q = q - x := by rw [Nat.zero_add]; exact Nat.mod_eq_of_lt (by omega)
  rw [e]
  omega
theorem ng_ng_mul (r : Nat) : ng r * ng r % p = r * r % p := by
  rw [ng_mul, ng_mod, Nat.mul_comm r (ng r), ← ng_mod, ng_mul, ng_ng, Nat.mod_mod]
theorem root_neg {u v r : Nat} (h : v * (r * r) % p = u % p) : v * (ng r * ng r) % p = u % p := by
  rw [mcong rfl (ng_ng_mul r)]; exact h

/-- r is the root of u/v that is told -/
def RootOf (u v r : Nat) : Prop := r < p ∧ r % 2 = 0 ∧ v * (r * r) % p = u % p ∧ (u % p = 0 → r = 0)


theorem root_chain {u v a b c d e f g r h s : Nat} (h1 : a % p = v ^ (2 ^ 1) % p) (h2 : b % p = a * v % p) (h3 : c % p = b ^ (2 ^ 1) % p) (h4 : d % p = c * v % p) (h5 : e % p = u * b % p) (h6 : f % p = u * d % p)
    (h7 : g % p = rp f) (h8 : r % p = e * g % p) (h9 : h % p = r ^ (2 ^ 1) % p) (h10 : s % p = v * h % p) : s % p = u * fq (u * v ^ 7) % p ∧ s % p = v * (r * r) % p ∧ (u % p = 0 → r % p = 0) := by
  have e2 : ∀ x : Nat, x ^ (2 ^ 1) = x * x := by intro x; grind
  rw [e2] at h1 h3 h9
  have hb : b % p = v ^ 3 % p := by
    rw [h2, mcong h1 rfl]
    exact congrArg (· % p) (by grind)
  have hd : d % p = v ^ 7 % p := by
    rw [h4, mcong (h3.trans (mcong hb hb)) rfl]
    exact congrArg (· % p) (by grind)
  have hf : f % p = u * v ^ 7 % p := h6.trans (mcong rfl hd)
  have he : e % p = u * v ^ 3 % p := h5.trans (mcong rfl hb)
  have hg : g % p = rp f % p := by rw [h7, Nat.mod_eq_of_lt (rp_lt f)]
  have hr : r % p = u * v ^ 3 * rp f % p := h8.trans (mcong he hg)
  have hs : s % p = v * (r * r) % p := h10.trans (mcong rfl h9)
  refine ⟨root_sq hf hr hs, hs, fun hu => ?_⟩
  rw [hr, Nat.mul_assoc, Nat.mul_mod, hu]; simp
theorem rok_of_found {u v s : Nat} (hs : s % p = u * fq (u * v ^ 7) % p) (h : s % p = u % p ∨ s % p = ng u) : rok u v := by
  apply Classical.byContradiction
  intro hn
  obtain ⟨h1, h2⟩ := root_none hn hs
  rcases h with h | h
  · exact h1 h
  · exact h2 h
theorem rok_none {u v s : Nat} (hs : s % p = u * fq (u * v ^ 7) % p) (h1 : ¬ s % p = u % p) (h2 : ¬ s % p = ng u) : ¬ rok u v := by
  intro h
  rcases root_found h hs with e | e
  · exact h1 e
  · exact h2 e
end FieldNum

namespace FieldNum

/-- the curve's number -/
def dd : Nat := 37095705934669439343138083508754565189542113879843219016388785533085940283555
def Bx : Nat := 15112221349535400772501151409588531511454012693041857206046113283949847762202
def By : Nat := 46316835694926478169428394003475163141307993866256225615783033603165251855960
theorem dd_lt : dd < p := by decide +kernel
theorem hp_dd : hp dd = p - 1 := (hp_pm dd).trans (by decide +kernel)
theorem inv_e : inv 121666 = 37095705934669439343138083508754565189542113879843219016388785533085940283556 := (inv_uniq (by decide +kernel) (by decide +kernel)).symm
theorem dd_frac : ng (121665 * inv 121666 % p) = dd := by rw [inv_e]; decide +kernel

theorem acong {a b c d : Nat} (h1 : a % p = b % p) (h2 : c % p = d % p) : (a + c) % p = (b + d) % p := by rw [Nat.add_mod, h1, h2, ← Nat.add_mod]
theorem mm (a : Nat) : a % p % p = a % p := Nat.mod_mod _ _

theorem top_of {A : Nat} (h : (A + 1) % p = 0) : A % p = p - 1 := by
  have h1 : A % p < p := Nat.mod_lt _ p_pos
  have h2 : (A % p + 1) % p = 0 := by rw [Nat.mod_add_mod]; exact h
  have hq := one_lt_p
  generalize A % p = x at *
  generalize p = q at *
  by_cases hx : x + 1 < q
  · rw [Nat.mod_eq_of_lt hx] at h2; omega
  · omega

theorem under_ne (y : Nat) : (dd * (y * y) + 1) % p ≠ 0 := by
  intro h
  have e := top_of h
  by_cases hy : y % p = 0
  · rw [Nat.mul_mod, Nat.mul_mod y, hy] at e
    exact absurd e (by decide +kernel)
  · have h2 : hp (dd * (y * y)) = 1 := by rw [← hp_mod, e, hp_neg_one]
    rw [hp_mul', hp_dd, hp_sq1 hy, Nat.mul_one] at h2
    exact absurd h2 (by decide +kernel)

/-- what is over and under the line of x x -/
def uu (y : Nat) : Nat := sb (y * y % p) 1
def vv (y : Nat) : Nat := (dd * (y * y % p) % p + 1) % p
theorem vv_ne (y : Nat) : vv y % p ≠ 0 := by
  have h := under_ne y
  have e : vv y % p = (dd * (y * y) + 1) % p := by
    unfold vv
    rw [mm]
    exact acong ((mm _).trans (mcong rfl (mm _))) rfl
  rw [e]; exact h

theorem leg_mul' (a b : Nat) : leg (a * b) = leg a * leg b := by rw [← leg_mod, leg_mul]
theorem leg_k : leg 121666 * leg 121666 = 1 := by
  rw [← leg_mul', ← leg_mod]
  have h : hp (121666 * 121666 % p) = 1 := by rw [hp_mod]; exact hp_sq1 (by decide +kernel)
  unfold leg
  rw [h]; rfl

theorem forms_leg (y : Nat) : leg ((uu y * 121666 % p) * (121666 * ((y * y % p * dd % p + 1) % p) % p) % p) = leg (uu y * vv y) := by
  rw [leg_mul, leg_mod, leg_mod, leg_mul', leg_mul' 121666, leg_mul' (uu y)]
  have e : (y * y % p * dd % p + 1) % p = vv y := by unfold vv; rw [Nat.mul_comm dd]
  rw [e]
  have := leg_k
  generalize leg 121666 = k at *
  generalize leg (uu y) = a
  generalize leg (vv y) = b
  grind

theorem leg_neg_iff {u v : Nat} (hv : v % p ≠ 0) : leg (u * v) < 0 ↔ ¬ rok u v := by
  have k1 : p - 1 ≠ 0 := by decide +kernel
  have k2 : p - 1 ≠ 1 := by decide +kernel
  unfold leg rok
  rcases hp_cases (u * v) with ⟨h, e⟩ | ⟨h, e | e⟩
  · rw [e]
    have : u % p = 0 := by
      apply Classical.byContradiction
      intro hu
      exact mul_ne hu hv h
    simp [this]
  · rw [e]; simp
  · have := (ne_of_mul h).1
    rw [e]; simp [k1, k2, this]
theorem leg_zero_uv {u v : Nat} (hv : v % p ≠ 0) : leg (u * v) = 0 ↔ u % p = 0 := by
  rw [leg_zero_iff]
  constructor
  · intro h
    apply Classical.byContradiction
    intro hu
    exact mul_ne hu hv h
  · intro h; rw [Nat.mul_mod, h]; simp

/-- is the pair on the curve? -/
abbrev onc (x y : Nat) : Prop := sb (y * y % p) (x * x % p) = (1 + dd * ((x * x % p) * (y * y % p) % p) % p) % p

theorem on_of_root {x y : Nat} (h : vv y * (x * x) % p = uu y % p) : onc x y := by
  unfold onc
  refine (sb_uniq (Nat.mod_lt _ p_pos) ?_).symm
  have h1 : (uu y + 1) % p = y * y % p := by unfold uu; rw [sb_add, mm]
  have h2 : (uu y + 1) % p = (vv y * (x * x) + 1) % p := acong h.symm rfl
  have h3 : vv y * (x * x) % p = (dd * (y * y) + 1) * (x * x) % p := mcong (by unfold vv; rw [mm]; exact acong ((mm _).trans (mcong rfl (mm _))) rfl) rfl
  have h4 : (1 + dd * (x * x % p * (y * y % p) % p) % p) % p = (1 + dd * ((x * x) * (y * y))) % p := acong rfl ((mm _).trans (mcong rfl ((mm _).trans (mcong (mm _) (mm _)))))
  have h5 : (1 + dd * ((x * x) * (y * y))) + x * x = (dd * (y * y) + 1) * (x * x) + 1 := by grind
  have h6 : ((1 + dd * (x * x % p * (y * y % p) % p) % p) % p + x * x % p) % p = ((1 + dd * ((x * x) * (y * y))) + x * x) % p := acong ((mm _).trans h4) (mm _)
  refine h6.trans ?_
  rw [h5, mm, ← h1, h2]
  exact (acong h3 rfl).symm

theorem ng_odd {r : Nat} (h : r < p) (h0 : r ≠ 0) (he : r % 2 = 0) : ng r % 2 = 1 := by
  have hp2 : p % 2 = 1 := by decide +kernel
  unfold ng sb
  rw [Nat.mod_eq_of_lt h]
  generalize p = q at *
  have e : (0 + (q - r)) % q = q - r := by rw [Nat.zero_add]; exact Nat.mod_eq_of_lt (by omega)
  rw [e]
  omega

theorem root_zero {u v r : Nat} (h : RootOf u v r) : r = 0 ↔ u % p = 0 := by
  obtain ⟨_, _, h3, h4⟩ := h
  refine ⟨fun e => ?_, h4⟩
  subst e
  rw [← h3]; simp

/-- the double of the base point -/
def dblz (x y : Nat) : Nat := sb (y * y % p) (x * x % p) * sb ((1 * 1 % p + 1 * 1 % p) % p) (sb (y * y % p) (x * x % p)) % p
theorem base_z : dblz Bx By = 10165075093246554225462147012749345725666169878716553273091115824860921012610 := by decide +kernel
theorem base_iz : inv (dblz Bx By) = 11821405566318046959426517187449467202305020263187074292011644136551774483760 := by
  rw [base_z]; exact (inv_uniq (by decide +kernel) (by decide +kernel)).symm
theorem base_on : onc Bx By := by unfold onc; decide +kernel
end FieldNum

namespace FieldNum

theorem root_uniq0 {u v r s : Nat} (hr : RootOf u v r) (hs : RootOf u v s) (hle : s ≤ r) : r = s := by
  obtain ⟨r1, r2, r3, r4⟩ := hr
  obtain ⟨s1, s2, s3, s4⟩ := hs
  by_cases hu : u % p = 0
  · rw [r4 hu, s4 hu]
  · have hv : ¬ p ∣ v := by
      intro hd
      apply hu
      rw [← r3, Nat.mul_mod, Nat.dvd_iff_mod_eq_zero.1 hd]; simp
    have h1 : r * r % p = s * s % p := pr_p.cancel hv (a := r * r) (b := s * s) (by rw [Nat.mul_comm _ v, Nat.mul_comm _ v, r3, s3])
    have h2 := dvd_of_mod_eq h1
    have h3 : r * r - s * s = (r - s) * (r + s) := by
      obtain ⟨k, rfl⟩ : ∃ k, r = s + k := ⟨r - s, by omega⟩
      rw [Nat.add_sub_cancel_left]
      have : (s + k) * (s + k) = s * s + k * (s + k + s) := by grind
      omega
    rw [h3] at h2
    have hp2 : p % 2 = 1 := by decide +kernel
    rcases pr_p.dvd_mul h2 with g | g
    · have := Nat.eq_zero_of_dvd_of_lt g (by omega)
      omega
    · obtain ⟨k, hk⟩ := g
      have hk2 : k < 2 := by
        apply Classical.byContradiction
        intro hn
        have : p * 2 ≤ p * k := Nat.mul_le_mul_left _ (by omega)
        omega
      have : k = 0 ∨ k = 1 := by omega
      rcases this with rfl | rfl
      · rw [Nat.mul_zero] at hk; omega
      · rw [Nat.mul_one] at hk; omega
theorem root_uniq {u v r s : Nat} (hr : RootOf u v r) (hs : RootOf u v s) : r = s := by
  rcases Nat.le_total s r with h | h
  · exact root_uniq0 hr hs h
  · exact (root_uniq0 hs hr h).symm

/-- the root among the numbers below n -/
def rtb (u v : Nat) : Nat → Nat
  | 0 => 0
  | n + 1 => if n % 2 = 0 ∧ v * (n * n) % p = u % p ∧ (u % p = 0 → n = 0) then n else rtb u v n
theorem rtb_eq {u v r : Nat} (h : RootOf u v r) : ∀ n, r < n → n ≤ p → rtb u v n = r
  | 0, hr, _ => absurd hr (Nat.not_lt_zero _)
  | n + 1, hr, hn => by
    unfold rtb
    split
    · rename_i hc
      exact root_uniq ⟨by omega, hc.1, hc.2.1, hc.2.2⟩ h
    · rename_i hc
      have : r ≠ n := fun e => hc (e ▸ ⟨h.2.1, h.2.2.1, h.2.2.2⟩)
      exact rtb_eq h n (by omega) (by omega)
theorem rtb_lt (u v : Nat) : ∀ n, rtb u v n ≤ n
  | 0 => Nat.le_refl _
  | n + 1 => by
    unfold rtb
    split
    · omega
    · have := rtb_lt u v n; omega
/-- the even root of u/v -/
def rt (u v : Nat) : Nat := rtb u v p
theorem rt_eq {u v r : Nat} (h : RootOf u v r) : rt u v = r := rtb_eq h p h.1 (Nat.le_refl _)
theorem rt_le (u v : Nat) : rt u v ≤ p := rtb_lt u v p
theorem root_even {u v z : Nat} (h : v * (z * z) % p = u % p) (h0 : u % p = 0 → z % p = 0) (he : ¬ z % p % 2 = 1) : RootOf u v (z % p) :=
  ⟨Nat.mod_lt _ p_pos, by omega, by rw [mcong rfl (mcong (mm z) (mm z))]; exact h, h0⟩
theorem root_odd {u v z : Nat} (h : v * (z * z) % p = u % p) (h0 : u % p = 0 → z % p = 0) (he : z % p % 2 = 1) : RootOf u v (ng z) :=
  ⟨ng_lt z, (ng_even he).1, root_neg h, fun hu => by
    have := h0 hu
    rw [this] at he; cases he⟩
end FieldNum
