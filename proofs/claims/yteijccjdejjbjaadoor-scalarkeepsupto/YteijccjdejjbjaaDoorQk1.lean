import Derived.Test.YteijccjdejjbjaaDoorQk0
import Derived.ChangeKeysEq
namespace ScalarNum

/-- a prime number -/
def Pr (r : Nat) : Prop := 2 ≤ r ∧ ∀ m, m ∣ r → m = 1 ∨ m = r

theorem Pr.coprime {r a : Nat} (h : Pr r) (ha : ¬ r ∣ a) : Nat.gcd r a = 1 := by
  rcases h.2 (Nat.gcd r a) (Nat.gcd_dvd_left r a) with g | g
  · exact g
  · exact absurd (g ▸ Nat.gcd_dvd_right r a) ha

theorem Pr.dvd_mul {r a b : Nat} (h : Pr r) (hd : r ∣ a * b) : r ∣ a ∨ r ∣ b := by
  by_cases ha : r ∣ a
  · exact .inl ha
  · exact .inr (Nat.Coprime.dvd_of_dvd_mul_left (h.coprime ha) hd)

theorem Pr.dvd_pow {r a n : Nat} (h : Pr r) (hd : r ∣ a ^ n) : r ∣ a := by
  induction n with
  | zero =>
    have : r = 1 := Nat.dvd_one.1 (by simpa using hd)
    have := h.1; omega
  | succ n ih =>
    rw [Nat.pow_succ] at hd
    rcases h.dvd_mul hd with g | g
    · exact ih g
    · exact g

def prod : List Nat → Nat
  | [] => 1
  | x :: t => x * prod t

theorem prod_perm {l m : List Nat} (h : List.Perm l m) : prod l = prod m := by
  induction h with
  | nil => rfl
  | cons x _ ih => simp [prod, ih]
  | swap x y l => simp [prod, Nat.mul_left_comm]
  | trans _ _ h1 h2 => exact h1.trans h2

theorem perm_of {l m : List Nat} (hn : l.Nodup) (hs : ∀ x ∈ l, x ∈ m) (hl : m.length ≤ l.length) : l.Perm m := by
  induction l generalizing m with
  | nil =>
    have : m = [] := List.length_eq_zero_iff.1 (by simpa using hl)
    subst this; exact .refl _
  | cons x t ih =>
    have hx : x ∈ m := hs x (by simp)
    have hp := List.perm_cons_erase hx
    have hn' := List.nodup_cons.1 hn
    refine List.Perm.trans (.cons x (ih hn'.2 ?_ ?_)) hp.symm
    · intro y hy
      have hne : y ≠ x := by rintro rfl; exact hn'.1 hy
      exact (List.mem_erase_of_ne hne).2 (hs y (by simp [hy]))
    · rw [List.length_erase_of_mem hx]; simp at hl; omega

theorem prod_map (a r : Nat) (l : List Nat) : prod (l.map (fun x => a * x % r)) % r = a ^ l.length * prod l % r := by
  induction l with
  | nil => simp [prod]
  | cons x t ih =>
    simp only [List.map, prod, List.length_cons]
    rw [Nat.mul_mod, ih, Nat.mod_mod, ← Nat.mul_mod, Nat.pow_succ]
    congr 1
    simp only [Nat.mul_assoc, Nat.mul_left_comm, Nat.mul_comm]

theorem dvd_of_mod_eq {r x y : Nat} (h : x % r = y % r) : r ∣ x - y := by
  exact (Nat.dvd_iff_mod_eq_zero).2 (Nat.sub_mod_eq_zero_of_mod_eq h)

theorem mod_eq_of_dvd {r x y : Nat} (h : r ∣ x - y) (hle : y ≤ x) : x % r = y % r := by
  obtain ⟨k, hk⟩ := h
  have : x = y + r * k := by omega
  rw [this, Nat.add_mul_mod_self_left]

theorem Pr.cancel {r a b c : Nat} (h : Pr r) (hc : ¬ r ∣ c) (e : a * c % r = b * c % r) : a % r = b % r := by
  have key : ∀ x y : Nat, x * c % r = y * c % r → y ≤ x → x % r = y % r := by
    intro x y e hle
    have hd : r ∣ x * c - y * c := dvd_of_mod_eq e
    rw [← Nat.sub_mul] at hd
    rcases h.dvd_mul hd with g | g
    · exact mod_eq_of_dvd g hle
    · exact absurd g hc
  rcases Nat.le_total b a with hle | hle
  · exact key a b e hle
  · exact (key b a e.symm hle).symm

theorem Pr.not_dvd_of_lt {r x : Nat} (h1 : 1 ≤ x) (h2 : x < r) : ¬ r ∣ x := by
  intro h; have := Nat.le_of_dvd h1 h; omega

theorem fermat {r a : Nat} (h : Pr r) (ha : ¬ r ∣ a) : a ^ (r-1) % r = 1 := by
  have h2 := h.1
  have hm : ∀ x, x ∈ List.range' 1 (r-1) ↔ 1 ≤ x ∧ x < r := by
    intro x; rw [List.mem_range'_1]; omega
  have hp : ((List.range' 1 (r-1)).map (fun x => a * x % r)).Perm (List.range' 1 (r-1)) := by
    refine perm_of ?_ ?_ ?_
    · refine List.pairwise_map.2 ?_
      refine List.Pairwise.imp_of_mem ?_ (List.nodup_range' (s := 1) (n := r-1))
      intro x y hx hy hne e
      rw [hm] at hx hy
      rw [Nat.mul_comm a x, Nat.mul_comm a y] at e
      have := h.cancel ha e
      rw [Nat.mod_eq_of_lt hx.2, Nat.mod_eq_of_lt hy.2] at this
      exact hne this
    · intro x hx
      obtain ⟨y, hy, rfl⟩ := List.mem_map.1 hx
      rw [hm] at hy ⊢
      refine ⟨?_, Nat.mod_lt _ (by omega)⟩
      apply Nat.pos_of_ne_zero
      intro e
      rcases h.dvd_mul ((Nat.dvd_iff_mod_eq_zero).2 e) with g | g
      · exact ha g
      · exact Pr.not_dvd_of_lt hy.1 hy.2 g
    · simp
  have e := prod_perm hp
  have e2 := prod_map a r (List.range' 1 (r-1))
  rw [e] at e2
  have hc : ¬ r ∣ prod (List.range' 1 (r-1)) := by
    have : ∀ l : List Nat, (∀ x ∈ l, ¬ r ∣ x) → ¬ r ∣ prod l := by
      intro l; induction l with
      | nil => intro _ hd; have := Nat.dvd_one.1 hd; omega
      | cons x t ih =>
        intro hx hd
        rcases h.dvd_mul hd with g | g
        · exact hx x (by simp) g
        · exact ih (fun y hy => hx y (by simp [hy])) g
    refine this _ ?_
    intro x hx; rw [hm] at hx; exact Pr.not_dvd_of_lt hx.1 hx.2
  rw [List.length_range'] at e2
  have := h.cancel (a := 1) (b := a ^ (r-1)) hc (by rw [Nat.one_mul]; exact e2)
  rw [← this, Nat.mod_eq_of_lt (by omega)]

theorem pow_mul_mod_one {b r m : Nat} (h : b ^ m % r = 1 % r) (k : Nat) : b ^ (m * k) % r = 1 % r := by
  rw [Nat.pow_mul, Nat.pow_mod, h, ← Nat.pow_mod, Nat.one_pow]

theorem pow_gcd {b r : Nat} : ∀ m n : Nat, b ^ m % r = 1 % r → b ^ n % r = 1 % r → b ^ (Nat.gcd m n) % r = 1 % r := by
  intro m n
  refine Nat.gcd.induction (P := fun m n => b ^ m % r = 1 % r → b ^ n % r = 1 % r → b ^ (Nat.gcd m n) % r = 1 % r) m n ?_ ?_
  · intro n _ h; simpa using h
  · intro m n hm ih h1 h2
    rw [Nat.gcd_rec]
    refine ih ?_ h1
    have e : n = m * (n / m) + n % m := (Nat.div_add_mod n m).symm
    rw [e, Nat.pow_add, Nat.mul_mod, pow_mul_mod_one h1, ← Nat.mul_mod, Nat.one_mul] at h2
    exact h2

theorem pock {n a q r k : Nat} (hr : Pr r) (hrn : r ∣ n) (hq : Pr q) (hk : n - 1 = k * q)
    (h1 : a ^ (n - 1) % n = 1 % n) (hg : Nat.gcd (a ^ k % n + (n - 1)) n = 1) (hn : 2 ≤ n) : q ∣ r - 1 := by
  have hra : ¬ r ∣ a ^ k := by
    intro hd
    have : r ∣ a ^ (n-1) := by
      rw [hk, Nat.pow_mul]
      have : q ≠ 0 := by have := hq.1; omega
      obtain ⟨q', rfl⟩ := Nat.exists_eq_succ_of_ne_zero this
      rw [Nat.pow_succ]
      exact Nat.dvd_trans hd (Nat.dvd_mul_left _ _)
    have h0 : a ^ (n-1) % r = 0 := (Nat.dvd_iff_mod_eq_zero).1 this
    have h1' : a ^ (n-1) % r = 1 % r := by
      have := congrArg (· % r) h1
      simpa [Nat.mod_mod_of_dvd _ hrn] using this
    have := hr.1
    rw [h0, Nat.mod_eq_of_lt (by omega)] at h1'
    omega
  have hf : (a ^ k) ^ (r - 1) % r = 1 % r := by
    rw [fermat hr hra, Nat.mod_eq_of_lt hr.1]
  have hb : (a ^ k) ^ q % r = 1 % r := by
    rw [← Nat.pow_mul, ← hk]
    have := congrArg (· % r) h1
    simpa [Nat.mod_mod_of_dvd _ hrn] using this
  rcases hq.2 (Nat.gcd q (r-1)) (Nat.gcd_dvd_left _ _) with g | g
  · exfalso
    have hh := pow_gcd q (r-1) hb hf
    rw [g, Nat.pow_one] at hh
    have hd : r ∣ a ^ k % n + (n - 1) := by
      apply (Nat.dvd_iff_mod_eq_zero).2
      rw [Nat.add_mod, Nat.mod_mod_of_dvd _ hrn, hh, ← Nat.add_mod]
      have : 1 + (n - 1) = n := by omega
      rw [this]
      exact (Nat.dvd_iff_mod_eq_zero).1 hrn
    have := Nat.dvd_gcd hd hrn
    rw [hg] at this
    have := Nat.dvd_one.1 this
    have := hr.1
    omega
  · rw [← g]; exact Nat.gcd_dvd_right _ _

/-- the least divisor that isn't 1 is a prime -/
theorem exists_pr : ∀ m : Nat, 2 ≤ m → ∃ r, Pr r ∧ r ∣ m := by
  intro m
  induction m using Nat.strongRecOn with
  | ind m ih =>
    intro hm
    by_cases h : Pr m
    · exact ⟨m, h, Nat.dvd_refl _⟩
    · have : ∃ d, d ∣ m ∧ d ≠ 1 ∧ d ≠ m := by
        apply Classical.byContradiction
        intro hn
        apply h
        refine ⟨hm, fun d hd => ?_⟩
        apply Classical.byContradiction
        intro hc
        exact hn ⟨d, hd, fun e => hc (.inl e), fun e => hc (.inr e)⟩
      obtain ⟨d, hd, h1, h2⟩ := this
      have hle := Nat.le_of_dvd (by omega) hd
      have hd0 : d ≠ 0 := by rintro rfl; have := Nat.zero_dvd.1 hd; omega
      obtain ⟨r, hr, hrd⟩ := ih d (by omega) (by omega)
      exact ⟨r, hr, Nat.dvd_trans hrd hd⟩

/-- n is a prime if each of its prime divisors is so great that two of them are more than n -/
theorem pr_of_big {n : Nat} (hn : 2 ≤ n) (h : ∀ r, Pr r → r ∣ n → n < r * r) : Pr n := by
  refine ⟨hn, fun m hm => ?_⟩
  apply Classical.byContradiction
  intro hc
  obtain ⟨k, hk⟩ := hm
  have hm1 : m ≠ 1 := fun e => hc (.inl e)
  have hmn : m ≠ n := fun e => hc (.inr e)
  have hm0 : m ≠ 0 := by rintro rfl; omega
  have hk0 : k ≠ 0 := by rintro rfl; omega
  have hk1 : k ≠ 1 := by rintro rfl; omega
  obtain ⟨r, hr, hrm⟩ := exists_pr m (by omega)
  obtain ⟨s, hs, hsk⟩ := exists_pr k (by omega)
  have h1 := h r hr (hk ▸ Nat.dvd_trans hrm (Nat.dvd_mul_right _ _))
  have h2 := h s hs (hk ▸ Nat.dvd_trans hsk (Nat.dvd_mul_left _ _))
  have h3 := Nat.le_of_dvd (by omega) hrm
  have h4 := Nat.le_of_dvd (by omega) hsk
  have h5 : r * s ≤ n := hk ▸ Nat.mul_le_mul h3 h4
  rcases Nat.le_total r s with h6 | h6
  · have := Nat.mul_le_mul_left r h6; omega
  · have := Nat.mul_le_mul_right s h6; omega

/-- trial: no d from 2 to k + 1 divides n -/
def trial (n : Nat) : Nat → Bool
  | 0 => true
  | k + 1 => (n % (k + 2) != 0) && trial n k

theorem trial_ok {n : Nat} : ∀ {k : Nat}, trial n k = true → ∀ d, 2 ≤ d → d ≤ k + 1 → ¬ d ∣ n
  | 0, _, d, h1, h2 => by omega
  | k + 1, h, d, h1, h2 => by
    simp only [trial, Bool.and_eq_true, bne_iff_ne, ne_eq] at h
    by_cases e : d = k + 2
    · subst e; intro hd; exact h.1 ((Nat.dvd_iff_mod_eq_zero).1 hd)
    · exact trial_ok h.2 d h1 (by omega)

theorem pr_of_trial {n k : Nat} (hn : 2 ≤ n) (h : trial n k = true) (hk : n < (k + 2) * (k + 2)) : Pr n := by
  refine pr_of_big hn fun r hr hd => ?_
  have : ¬ r ≤ k + 1 := fun hle => trial_ok h r hr.1 hle hd
  have : k + 2 ≤ r := by omega
  exact Nat.lt_of_lt_of_le hk (Nat.mul_le_mul this this)

/-- the power by squares, of a bound on the exponent's bits -/
def pm (a n : Nat) : Nat → Nat → Nat
  | 0, _ => 1 % n
  | f + 1, e => (pm a n f (e / 2)) ^ 2 * (if e % 2 = 1 then a else 1) % n

theorem pm_eq (a n : Nat) : ∀ f e, e < 2 ^ f → pm a n f e = a ^ e % n
  | 0, e, h => by
    have : e = 0 := by simp at h; omega
    subst this; simp [pm]
  | f + 1, e, h => by
    have hlt : e / 2 < 2 ^ f := by rw [Nat.pow_succ] at h; omega
    rw [pm, pm_eq a n f (e/2) hlt]
    have e1 : a ^ e = (a ^ (e/2)) ^ 2 * (if e % 2 = 1 then a else 1) := by
      rw [← Nat.pow_mul]
      by_cases hodd : e % 2 = 1
      · rw [if_pos hodd, ← Nat.pow_succ]; congr 1; omega
      · rw [if_neg hodd, Nat.mul_one]; congr 1; omega
    rw [e1, Nat.mul_mod, ← Nat.pow_mod, ← Nat.mul_mod]


theorem pr_two {n a q s k l f : Nat} (hn : 2 ≤ n) (hq : Pr q) (hs : Pr s) (hc : Nat.gcd q s = 1)
    (hk : n - 1 = k * q) (hl : n - 1 = l * s)
    (hf : n < 2 ^ f) (h1 : pm a n f (n-1) = 1 % n) (g1 : Nat.gcd (pm a n f k + (n-1)) n = 1)
    (g2 : Nat.gcd (pm a n f l + (n-1)) n = 1) (hb : n < (q * s + 1) * (q * s + 1)) : Pr n := by
  have hq2 := hq.1
  have hs2 := hs.1
  have hkn : k ≤ n - 1 := by rw [hk]; exact Nat.le_mul_of_pos_right k (by omega)
  have hln : l ≤ n - 1 := by rw [hl]; exact Nat.le_mul_of_pos_right l (by omega)
  rw [pm_eq _ _ _ _ (by omega)] at h1 g1 g2
  refine pr_of_big hn fun r hr hd => ?_
  have d1 := pock hr hd hq hk h1 g1 hn
  have d2 := pock hr hd hs hl h1 g2 hn
  have d3 : q * s ∣ r - 1 := Nat.Coprime.mul_dvd_of_dvd_of_dvd hc d1 d2
  have hr2 := hr.1
  have := Nat.le_of_dvd (by omega) d3
  have h3 : q * s + 1 ≤ r := by omega
  exact Nat.lt_of_lt_of_le hb (Nat.mul_le_mul h3 h3)

theorem lpr_1224481 : Pr 1224481 := pr_of_trial (k := 1107) (by decide) (by decide +kernel) (by decide +kernel)
theorem lpr_531581 : Pr 531581 := pr_of_trial (k := 730) (by decide) (by decide +kernel) (by decide +kernel)
theorem lpr_41 : Pr 41 := pr_of_trial (k := 7) (by decide) (by decide +kernel) (by decide +kernel)
theorem lpr_2851 : Pr 2851 := pr_of_trial (k := 54) (by decide) (by decide +kernel) (by decide +kernel)
theorem lpr_269 : Pr 269 := pr_of_trial (k := 17) (by decide) (by decide +kernel) (by decide +kernel)
theorem lpr_7 : Pr 7 := pr_of_trial (k := 3) (by decide) (by decide +kernel) (by decide +kernel)
theorem lpr_11 : Pr 11 := pr_of_trial (k := 4) (by decide) (by decide +kernel) (by decide +kernel)
theorem lpr_u : Pr 1257559732178653 :=
  pr_two (a := 2) (q := 1224481) (s := 531581) (k := 1257559732178652 / 1224481) (l := 1257559732178652 / 531581) (f := 64)
    (by decide) lpr_1224481 lpr_531581 (by decide +kernel) (by decide +kernel) (by decide +kernel) (by decide +kernel) (by decide +kernel) (by decide +kernel) (by decide +kernel) (by decide +kernel)
theorem lpr_t : Pr 4434155615661930479 :=
  pr_two (a := 3) (q := 41) (s := 1257559732178653) (k := 4434155615661930478 / 41) (l := 4434155615661930478 / 1257559732178653) (f := 64)
    (by decide) lpr_41 lpr_u (by decide +kernel) (by decide +kernel) (by decide +kernel) (by decide +kernel) (by decide +kernel) (by decide +kernel) (by decide +kernel) (by decide +kernel)
theorem lpr_s : Pr 172054593956031949258510691 :=
  pr_two (a := 2) (q := 2851) (s := 4434155615661930479) (k := 172054593956031949258510690 / 2851) (l := 172054593956031949258510690 / 4434155615661930479) (f := 96)
    (by decide) lpr_2851 lpr_t (by decide +kernel) (by decide +kernel) (by decide +kernel) (by decide +kernel) (by decide +kernel) (by decide +kernel) (by decide +kernel) (by decide +kernel)
theorem lpr_r : Pr 19757330305831588566944191468367130476339 :=
  pr_two (a := 2) (q := 269) (s := 172054593956031949258510691) (k := 19757330305831588566944191468367130476338 / 269) (l := 19757330305831588566944191468367130476338 / 172054593956031949258510691) (f := 136)
    (by decide) lpr_269 lpr_s (by decide +kernel) (by decide +kernel) (by decide +kernel) (by decide +kernel) (by decide +kernel) (by decide +kernel) (by decide +kernel) (by decide +kernel)
theorem lpr_q : Pr 276602624281642239937218680557139826668747 :=
  pr_two (a := 2) (q := 7) (s := 19757330305831588566944191468367130476339) (k := 276602624281642239937218680557139826668746 / 7) (l := 276602624281642239937218680557139826668746 / 19757330305831588566944191468367130476339) (f := 140)
    (by decide) lpr_7 lpr_r (by decide +kernel) (by decide +kernel) (by decide +kernel) (by decide +kernel) (by decide +kernel) (by decide +kernel) (by decide +kernel) (by decide +kernel)
theorem lpr_L : Pr 7237005577332262213973186563042994240857116359379907606001950938285454250989 :=
  pr_two (a := 2) (q := 11) (s := 276602624281642239937218680557139826668747) (k := 7237005577332262213973186563042994240857116359379907606001950938285454250988 / 11) (l := 7237005577332262213973186563042994240857116359379907606001950938285454250988 / 276602624281642239937218680557139826668747) (f := 256)
    (by decide) lpr_11 lpr_q (by decide +kernel) (by decide +kernel) (by decide +kernel) (by decide +kernel) (by decide +kernel) (by decide +kernel) (by decide +kernel) (by decide +kernel)

/-- L -/
def L : Nat := 7237005577332262213973186563042994240857116359379907606001950938285454250989
theorem L_eq : L = 2 ^ 252 + 27742317777372353535851937790883648493 := by decide +kernel
theorem pr_L : Pr L := lpr_L

end ScalarNum
namespace Go.Proofs.YteijccjdejjbjaaDoor
open Go.RowKit Go.Shelf ScalarNum

/-- the table -/
def Tab (w : World) : Prop := ∀ q, q ≤ 16 → w.rangeAt 0 (q * 4) (wl 4 (q * L % M))
theorem Tab.lt {w : World} (h : Tab w) : 0 < w.heap.size := range_lt (h 0 (by decide)) (by rw [wl_length]; decide)
theorem Tab.grown {w w' : World} (h : Tab w) (hg : Grown w w') : Tab w' := fun q hq => rangeAt_grown (h q hq) hg
theorem Tab.gb {w w' : World} {b : Nat} (h : Tab w) (hg : GB b w w') (hb : b ≠ 0) : Tab w' := fun q hq => hg.range (h q hq) (fun e => hb e.symm)

theorem wpList_loadNo {ops : Array Oper} {rest : List Oper} {op : Oper} {a : Act} {w : World} {Q : Exit → Act → World → Prop} (hgd : op.guard = none) (x : Operand) (ho : op.op = .load 62 x)
    (b o : Nat) (hx : a.eval x = .pointer (some ⟨b, o, none⟩)) (n : Nat) (hc : w.rangeAt b o (wl 4 n))
    (h : wpList Tryd.prog ops Q rest (a.put op.dst (wv 4 n)) w) : wpList Tryd.prog ops Q (op :: rest) a w :=
  wpList_load_mid hgd 62 x ho b o hx (wl 4 n) _ hc Tryd.underlying62 rfl (by rw [wl_length]; exact infoN) h

theorem top_bit {v : Nat} (hv : v < M) : dg B v 3 / 2 ^ 63 = v / 57896044618658097711785492504343953926634992332820282019728792003956564819968 := by
  unfold dg
  rw [Nat.mod_eq_of_lt (Nat.div_lt_of_lt_mul (by rw [Nat.mul_comm, ← Nat.pow_succ']; rw [B4]; exact hv)), Nat.div_div_eq_div_mul, show B ^ 3 * 2 ^ 63 = 57896044618658097711785492504343953926634992332820282019728792003956564819968 from by decide]

set_option maxRecDepth 100000 in
set_option maxHeartbeats 4000000 in
theorem divide_num (b q n : Nat) (hb : b ≠ 0) (hq : n / 7237005577332262213973186563042994240829374041602535252466099000494570602496 = q) (hq2 : q ≤ 16) (w : World) (hT : Tab w) (hr : w.rangeAt b 0 (wl 4 (n % M))) (ht : w.there b 0 4) :
    Calls Tryd.prog 61 #[.pointer (some ⟨b, 0, none⟩), .int .u64 (q : Int)] w fun e w' => e = .returned (.tuple #[]) ∧ GB b w w' ∧ w'.rangeAt b 0 (wl 4 (n % L)) ∧ w'.there b 0 4 := by
  have hb1 : (q : Int) < 17 := by omega
  have HT := Hid.of hT
  have Hr := Hid.of hr
  have Ht := Hid.of ht
  have Hq := Hid.of (And.intro hq hq2)
  have hM : n % M < M := Nat.mod_lt _ (by decide)
  have HM := Hid.of hM
  clear hT hr ht hq hq2 hM
  go_enter Tryd.func61, Tryd.ntmps61
  go_wp2_with (with_reducible show wpList _ _ _ ({ dst := _, op := Op.load 62 _, type := _, pos := _, after := _, guard := _ } :: _) _ _; refine Shut.out ?_)
  show wpList _ _ _ _ _ _
  refine wpList_loadNo rfl _ rfl 0 (q * 4) ?hp (q * L % M) (HT.out q Hq.out.2) ?_
  case hp => go_simp
  simp only [Act.put, List.setIfInBounds_toArray, List.set_cons_zero, List.set_cons_succ]
  go_wp2_with fail
  refine Calls.mono (sub_num b (n % M) (q * L % M) HM.out (Nat.mod_lt _ (by decide)) _ Hr.out Ht.out) ?_
  rintro e w1 ⟨rfl, g1, ⟨v1, c1, r1, e1, v1M⟩, t1⟩
  have hds := div_sub n q v1 c1 Hq.out.1 Hq.out.2 e1 v1M
  have d1 : w1.cell? ⟨b, 3, none⟩ = some (.int .u64 (dg B v1 3 : Nat)) := by
    have := r1 3 _ (wl_get 4 _ 3 (by decide)); rwa [Nat.zero_add] at this
  have tb := top_bit v1M
  have hd3 : dg B v1 3 < 18446744073709551616 := dg_lt B_pos
  generalize dg B v1 3 = td at *
  rw [show (2 : Nat) ^ 63 = 9223372036854775808 from rfl] at tb
  rw [← tb] at hds
  have HT1 := Hid.of (HT.out.gb g1 hb)
  have H := Hid.of (And.intro g1 (And.intro r1 (And.intro t1 (And.intro v1M hds))))
  clear HT Hr Ht Hq HM g1 r1 t1 v1M hds e1 tb
  dsimp only
  rcases (show td / 9223372036854775808 = 0 ∨ td / 9223372036854775808 = 1 by omega) with hz | hz
  · have hzi : (td : Int) / 9223372036854775808 = 0 := by omega
    have Hz := Hid.of hz
    clear hz hd3
    go_wp2
    go_end0
    obtain ⟨g1, r1, t1, v1M, hds⟩ := H.out
    refine ⟨rfl, g1, ?_, t1⟩
    have e2 : v1 = n % L := hds.1 Hz.out
    rw [← e2]; exact r1
  · have hzi : (td : Int) / 9223372036854775808 = 1 := by omega
    have Hz := Hid.of hz
    clear hz hd3
    go_wp2_with (with_reducible show wpList _ _ _ ({ dst := _, op := Op.load 62 _, type := _, pos := _, after := _, guard := _ } :: _) _ _; refine Shut.out ?_)
    show wpList _ _ _ _ _ _
    refine wpList_loadNo rfl _ rfl 0 4 ?hp2 L ?hr2 ?_
    case hp2 => go_simp
    case hr2 => have := HT1.out 1 (by decide); rwa [Nat.one_mul, Nat.one_mul, Nat.mod_eq_of_lt (by decide)] at this
    simp only [Act.put, List.setIfInBounds_toArray, List.set_cons_zero, List.set_cons_succ]
    go_wp2_with fail
    obtain ⟨g1, r1, t1, v1M, hds⟩ := H.out
    refine Calls.mono (add_num b v1 L v1M (by decide) _ r1 t1) ?_
    rintro e w2 ⟨rfl, g2, r2, t2⟩
    have e2 : (v1 + L) % M = n % L := hds.2.1 Hz.out ((v1 + L) % M) ((v1 + L) / M) (by rw [Nat.mul_comm]; exact Nat.mod_add_div _ _) (Nat.mod_lt _ (by decide))
    have g3 := GB.trans g1 g2
    rw [e2] at r2
    have H9 := Hid.of (And.intro g3 (And.intro r2 t2))
    clear H HT1 g1 r1 t1 v1M hds g2 g3 r2 t2 e2
    dsimp only
    go_wp2
    go_end0
    exact ⟨rfl, H9.out⟩
end Go.Proofs.YteijccjdejjbjaaDoor
namespace Go.Proofs.YteijccjdejjbjaaDoor
open Go.RowKit Go.Shelf ScalarNum

theorem yl32_zero : (yl 32 0).toArray = #[.int .u8 0, .int .u8 0, .int .u8 0, .int .u8 0, .int .u8 0, .int .u8 0, .int .u8 0, .int .u8 0, .int .u8 0, .int .u8 0, .int .u8 0, .int .u8 0, .int .u8 0, .int .u8 0, .int .u8 0, .int .u8 0, .int .u8 0, .int .u8 0, .int .u8 0, .int .u8 0, .int .u8 0, .int .u8 0, .int .u8 0, .int .u8 0, .int .u8 0, .int .u8 0, .int .u8 0, .int .u8 0, .int .u8 0, .int .u8 0, .int .u8 0, .int .u8 0] := by rfl

theorem alloc3 (w : World) (t1 t2 t3 : TypeId) (cs : List Value) (c2 : Array Value) (cs3 : List Value) :
    (((w.alloc (.cells cs.toArray t1)).alloc (.cells c2 t2)).alloc (.cells cs3.toArray t3)).rangeAt w.heap.size 0 cs ∧
    (((w.alloc (.cells cs.toArray t1)).alloc (.cells c2 t2)).alloc (.cells cs3.toArray t3)).there (w.heap.size + 1) 0 c2.size ∧
    (((w.alloc (.cells cs.toArray t1)).alloc (.cells c2 t2)).alloc (.cells cs3.toArray t3)).rangeAt (w.heap.size + 1 + 1) 0 cs3 ∧
    (((w.alloc (.cells cs.toArray t1)).alloc (.cells c2 t2)).alloc (.cells cs3.toArray t3)).there (w.heap.size + 1 + 1) 0 cs3.length ∧
    Grown w (((w.alloc (.cells cs.toArray t1)).alloc (.cells c2 t2)).alloc (.cells cs3.toArray t3)) := by
  have g1 : ∀ (w : World) (t : TypeId) (a : Array Value), Grown w (w.alloc (.cells a t)) := fun w t a => Grown.alloc (Grown.refl _) _ _
  have s1 : (w.alloc (.cells cs.toArray t1)).heap.size = w.heap.size + 1 := by simp
  have b1 := rangeAt_alloc_new w t1 cs
  have gV1 := g1 w t1 cs.toArray
  generalize w.alloc (.cells cs.toArray t1) = V1 at *
  have s2 : (V1.alloc (.cells c2 t2)).heap.size = w.heap.size + 1 + 1 := by simp [s1]
  have b2 := there_alloc_new V1 t2 c2 c2.size (Nat.le_refl _)
  rw [s1] at b2
  have gV2 := g1 V1 t2 c2
  generalize V1.alloc (.cells c2 t2) = V2 at *
  have b3 := rangeAt_alloc_new V2 t3 cs3
  have b4 := there_alloc_new V2 t3 cs3.toArray cs3.length (by simp)
  rw [s2] at b3 b4
  exact ⟨rangeAt_grown (rangeAt_grown b1 gV2) (g1 _ _ _), there_grown b2 (g1 _ _ _), b3, b4, grown_trans (grown_trans gV1 gV2) (g1 _ _ _)⟩

structure BX (w0 : World) (n i : Nat) (wr : World) : Prop where
  rx : wr.rangeAt w0.heap.size 0 (wl 4 n)
  tr : wr.there (w0.heap.size + 1) 0 32
  rb : wr.rangeAt (w0.heap.size + 1 + 1) 0 (yl 32 (n % 256 ^ i))
  tb : wr.there (w0.heap.size + 1 + 1) 0 32
  gw : Grown w0 wr

set_option maxRecDepth 100000 in
set_option maxHeartbeats 4000000 in
theorem bytes_num (n : Nat) (hn : n < M) (w : World) : Calls Tryd.prog 41 #[wv 4 n] w fun e w' => e = .returned (yv 32 n) ∧ Grown w w' := by
  rw [wv]
  go_enter Tryd.func41, Tryd.ntmps41
  go_wp2
  rw [← yl32_zero]
  have h0 := alloc3 w 62 23 23 (wl 4 n) (yl 32 0).toArray (yl 32 0)
  rw [show (yl 32 0).toArray.size = 32 from rfl, show (yl 32 0).length = 32 from rfl] at h0
  generalize (((w.alloc (Obj.cells (wl 4 n).toArray 62)).alloc (Obj.cells (yl 32 0).toArray 23)).alloc (Obj.cells (yl 32 0).toArray 23)) = W0 at *
  go_loopw [5] (fun v5 wr => ∃ i : Nat, v5 = .int .i64 (i : Int) ∧ i ≤ 32 ∧ BX w n i wr) (fun v5 _ => 32 - (intOf v5).toNat)
  case atStart =>
    refine ⟨0, rfl, by decide, h0.1, h0.2.1, ?_, h0.2.2.2.1, h0.2.2.2.2⟩
    rw [Nat.pow_zero, Nat.mod_one]; exact h0.2.2.1
  case round =>
    obtain ⟨i, rfl, hi, hL⟩ := hrel
    clear h0
    obtain ⟨rx, tr, rb, tb, gw⟩ := hL
    by_cases hlt : i < 32
    · have c2 : wr.cell? ⟨w.heap.size, i / 8, none⟩ = some (.int .u64 (dg B n (i / 8) : Nat)) := by
        have := rx (i / 8) _ (wl_get 4 _ (i / 8) (by omega)); rwa [Nat.zero_add] at this
      have c1 := (tb i hlt).2
      have c0 := rb i _ (yl_get 32 _ i hlt)
      rw [Nat.zero_add] at c0 c1
      generalize (Value.int IntKind.u8 (dg 256 (n % 256 ^ i) i : Nat)) = u0 at c0
      have l1 := byte_word n i
      have l2 := by_step n i
      have hb0 : dg 256 n i < 256 := dg_lt (by decide)
      generalize dg 256 n i = bt at *
      generalize dg B n (i / 8) = wd at *
      have b1 : (i : Int) < 32 := by omega
      have H1 := Hid.of l1
      have H2 := Hid.of l2
      have H3 := Hid.of hb0
      have H4 := Hid.of rx
      have H5 := Hid.of tb
      have H6 := Hid.of rb
      have H7 := Hid.of tr
      have H8 := Hid.of gw
      clear l1 l2 hb0 rx tb rb tr gw
      go_wp2
      have e : ((wd : Int) / 2 ^ (i % 8 * 8) % 256) = ((bt : Nat) : Int) := by
        rw [← H1.out]; simp
      rw [e]
      go_roundw
      case rel =>
        refine ⟨i + 1, by go_num, by omega, ?_⟩
        have r1 := yrange_set H6.out H3.out (show i < 32 from hlt)
        rw [H2.out] at r1
        exact ⟨range_put H4.out _ _ (by omega) _, there_setCell H7.out _ _, r1, there_setCell H5.out _ _, Grown.setCell H8.out (by show _ ≤ w.heap.size + 1 + 1; omega) _⟩
      case measure => simp [intOf]; omega
    · have hi32 : i = 32 := by omega
      subst hi32
      have e32 : n % 256 ^ 32 = n := Nat.mod_eq_of_lt (by rw [show (256 : Nat) ^ 32 = M from by decide]; exact hn)
      rw [e32] at rb
      have H4 := Hid.of rb
      have H7 := Hid.of tr
      have H8 := Hid.of gw
      clear rb tr rx tb gw hi hlt e32
      go_wp2_with (with_reducible show wpList _ _ _ ({ dst := _, op := Op.load 23 _, type := _, pos := _, after := _, guard := _ } :: _) _ _; refine Shut.out ?_)
      show wpList _ _ _ _ _ _
      refine wpList_load32 rfl _ rfl (w.heap.size + 1 + 1) rfl n H4.out ?_
      simp only [Act.put, List.setIfInBounds_toArray, List.set_cons_zero, List.set_cons_succ]
      refine wpList_store32 rfl _ _ rfl (w.heap.size + 1) n rfl rfl H7.out ?_
      simp only [Act.put]
      apply wpList_nil
      repeat go_step
      refine bodyPost_ret (v := yv 32 n) (result32 Tryd.results41 _ _ (w.heap.size + 1) _ ?hp (World.rangeAt_setCells_same _ _ _ _ (by rw [yl_length]; exact H7.out))) ?hd ?_
      case hp => rfl
      case hd => rfl
      exact ⟨rfl, grown_setCells (by omega) _ _ H8.out⟩
end Go.Proofs.YteijccjdejjbjaaDoor
namespace Go.Proofs.YteijccjdejjbjaaDoor
open Go.RowKit Go.Shelf ScalarNum

theorem alloc2 (w : World) (t1 t2 : TypeId) (cs : List Value) (c2 : Array Value) :
    ((w.alloc (.cells cs.toArray t1)).alloc (.cells c2 t2)).rangeAt w.heap.size 0 cs ∧
    ((w.alloc (.cells cs.toArray t1)).alloc (.cells c2 t2)).there w.heap.size 0 cs.length ∧
    ((w.alloc (.cells cs.toArray t1)).alloc (.cells c2 t2)).there (w.heap.size + 1) 0 c2.size ∧
    Grown w ((w.alloc (.cells cs.toArray t1)).alloc (.cells c2 t2)) := by
  have g1 : ∀ (w : World) (t : TypeId) (a : Array Value), Grown w (w.alloc (.cells a t)) := fun w t a => Grown.alloc (Grown.refl _) _ _
  have s1 : (w.alloc (.cells cs.toArray t1)).heap.size = w.heap.size + 1 := by simp
  have b1 := rangeAt_alloc_new w t1 cs
  have b0 := there_alloc_new w t1 cs.toArray cs.length (by simp)
  have gV1 := g1 w t1 cs.toArray
  generalize w.alloc (.cells cs.toArray t1) = V1 at *
  have b2 := there_alloc_new V1 t2 c2 c2.size (Nat.le_refl _)
  rw [s1] at b2
  exact ⟨rangeAt_grown b1 (g1 _ _ _), there_grown b0 (g1 _ _ _), b2, grown_trans gV1 (g1 _ _ _)⟩

theorem top4 {v : Nat} (hv : v < M) : dg B v 3 / 1152921504606846976 = v / 7237005577332262213973186563042994240829374041602535252466099000494570602496 := by
  unfold dg
  rw [Nat.mod_eq_of_lt (Nat.div_lt_of_lt_mul (by rw [Nat.mul_comm, ← Nat.pow_succ']; rw [B4]; exact hv)), Nat.div_div_eq_div_mul, show B ^ 3 * 1152921504606846976 = 7237005577332262213973186563042994240829374041602535252466099000494570602496 from by decide]

set_option maxRecDepth 100000 in
set_option maxHeartbeats 4000000 in
theorem reduced_num (n : Nat) (hn : n < M) (w : World) (hT : Tab w) : Calls Tryd.prog 43 #[wv 4 n] w fun e w' => e = .returned (wv 4 (n % L)) ∧ Grown w w' := by
  rw [wv]
  have h3 : (wl 4 n)[3]? = some (.int .u64 (dg B n 3 : Nat)) := wl_get 4 n 3 (by decide)
  have hq := top4 hn
  have hd3 : dg B n 3 < 18446744073709551616 := dg_lt B_pos
  generalize dg B n 3 = td at *
  have hq2 : td / 1152921504606846976 ≤ 16 := by omega
  obtain ⟨q, hqq⟩ : ∃ q, q = td / 1152921504606846976 := ⟨_, rfl⟩
  have hqi : (td : Int) / 1152921504606846976 = (q : Int) := by omega
  rw [← hqq] at hq hq2
  have Hq := Hid.of (And.intro hq hq2)
  have HT := Hid.of hT
  clear hd3 hq hq2 hqq hT
  have h0 := Hid.of (alloc2 w 62 62 (wl 4 n) #[Value.int IntKind.u64 0, Value.int IntKind.u64 0, Value.int IntKind.u64 0, Value.int IntKind.u64 0])
  go_enter Tryd.func43, Tryd.ntmps43
  go_wp2_with fail
  generalize ((w.alloc (Obj.cells (wl 4 n).toArray 62)).alloc (Obj.cells #[Value.int IntKind.u64 0, Value.int IntKind.u64 0, Value.int IntKind.u64 0, Value.int IntKind.u64 0] 62)) = W0 at *
  obtain ⟨r0, t0, t1, g0⟩ := h0.out
  have hsz := HT.out.lt
  refine Calls.mono (divide_num w.heap.size q n (by omega) Hq.out.1.symm Hq.out.2 _ (HT.out.grown g0) (by rw [Nat.mod_eq_of_lt hn]; exact r0) (by rw [wl_length] at t0; exact t0)) ?_
  rintro e w1 ⟨rfl, g1, r1, t2⟩
  have t3 : w1.there (w.heap.size + 1) 0 4 := g1.there t1 (by omega)
  have H := Hid.of (And.intro r1 (And.intro t3 (GB.own g0 (Nat.le_refl _) g1)))
  clear h0 r0 t0 t1 g0 g1 r1 t2 t3 HT Hq
  dsimp only
  go_wp2_with (with_reducible show wpList _ _ _ ({ dst := _, op := Op.load 62 _, type := _, pos := _, after := _, guard := _ } :: _) _ _; refine Shut.out ?_)
  show wpList _ _ _ _ _ _
  refine wpList_loadN rfl _ rfl (w.heap.size) rfl (n % L) (H.out.1) ?_
  simp only [Act.put, List.setIfInBounds_toArray, List.set_cons_zero, List.set_cons_succ]
  refine wpList_storeN rfl _ _ rfl (w.heap.size + 1) (n % L) rfl rfl (H.out.2.1) ?_
  simp only [Act.put]
  apply wpList_nil
  repeat go_step
  refine bodyPost_ret (v := wv 4 (n % L)) (resultN Tryd.results43 _ _ (w.heap.size + 1) _ ?hp (World.rangeAt_setCells_same _ _ _ _ (by rw [wl_length]; exact H.out.2.1))) ?hd ?_
  case hp => rfl
  case hd => rfl
  exact ⟨rfl, grown_setCells (by omega) _ _ (H.out.2.2)⟩
end Go.Proofs.YteijccjdejjbjaaDoor
namespace Go.Proofs.YteijccjdejjbjaaDoor
open Go.RowKit Go.Shelf ScalarNum

theorem cells8 : Tryd.prog.cellsOf 5 = 1 := by kernel_rfl
theorem cells64 : Tryd.prog.cellsOf 60 = 1 := by kernel_rfl

theorem eqItems_ints (d : Nat) (e : TypeId) (k k' : IntKind) (hu : Tryd.prog.underlying e = some (.int k')) (hp : ∀ (xs : Array Value) (i : Nat) (v : Value) (w : World), xs[i]? = some v → (part e xs (i * 1)).run Tryd.prog w = .ok v w)
    (f g : Nat → Int) (xs ys : Array Value) (w : World) : ∀ (is : List Nat), (∀ i ∈ is, xs[i]? = some (.int k (f i))) → (∀ i ∈ is, ys[i]? = some (.int k (g i))) →
    (Op.eqItems (d + 1) e 1 xs ys is).run Tryd.prog w = .ok (decide (∀ i ∈ is, f i = g i)) w
  | [], _, _ => by simp [Op.eqItems]
  | i :: is, hx, hy => by
    have ih := eqItems_ints d e k k' hu hp f g xs ys w is (fun j hj => hx j (by simp [hj])) (fun j hj => hy j (by simp [hj]))
    have p1 := hp xs i _ w (hx i (by simp))
    have p2 := hp ys i _ w (hy i (by simp))
    have p3 := run_equalIn_int (P := Tryd.prog) (w := w) d e k k' (f i) (g i) hu
    simp only [Op.eqItems, Sem.run_bind, p1, p2, p3, Result.andThen_ok]
    by_cases h : f i = g i
    · simp [h, ih]
    · simp [h]

theorem ds_inj {b n x y : Nat} (h : ∀ i, i < n → dg b x i = dg b y i) : x % b ^ n = y % b ^ n := by
  induction n with
  | zero => simp [Nat.mod_one]
  | succ k ih => rw [mod_succ, mod_succ, ih (fun i hi => h i (by omega)), h k (by omega)]
theorem w4_iff {x y : Nat} (hx : x < M) (hy : y < M) : (∀ i ∈ List.range 4, ((dg B x i : Nat) : Int) = ((dg B y i : Nat) : Int)) ↔ x = y := by
  constructor
  · intro h
    have := ds_inj (b := B) (n := 4) (x := x) (y := y) (fun i hi => by have := h i (by simp [hi]); omega)
    rwa [B4, Nat.mod_eq_of_lt hx, Nat.mod_eq_of_lt hy] at this
  · rintro rfl i _; rfl
theorem y32_iff {x y : Nat} (hx : x < M) (hy : y < M) : (∀ i ∈ List.range 32, ((dg 256 x i : Nat) : Int) = ((dg 256 y i : Nat) : Int)) ↔ x = y := by
  constructor
  · intro h
    have := ds_inj (b := 256) (n := 32) (x := x) (y := y) (fun i hi => by have := h i (by simp [hi]); omega)
    rwa [show (256 : Nat) ^ 32 = M from by decide, Nat.mod_eq_of_lt hx, Nat.mod_eq_of_lt hy] at this
  · rintro rfl i _; rfl

theorem equal32 (d : Nat) (m n : Nat) (hm : m < M) (hn : n < M) (w : World) : (Op.equalIn (d + 2) 23 (yv 32 m) (yv 32 n)).run Tryd.prog w = .ok (decide (m = n)) w := by
  obtain ⟨i, hi⟩ : ∃ i, Tryd.prog.info? 5 = some i := Option.isSome_iff_exists.1 (by kernel_rfl)
  unfold yv
  rw [run_equalIn_array (w := w) (d + 1) _ _ Tryd.underlying23 hi, cells8]
  rw [eqItems_ints d 5 .u8 .u8 Tryd.underlying5 (fun xs j v w hv => by rw [Nat.mul_one]; exact run_part_plain (w := w) (by kernel_rfl) hv) (fun j => ((dg 256 m j : Nat) : Int)) (fun j => ((dg 256 n j : Nat) : Int)) _ _ w (List.range 32)
    (fun j hj => by rw [List.getElem?_toArray]; exact yl_get 32 m j (by simpa using hj)) (fun j hj => by rw [List.getElem?_toArray]; exact yl_get 32 n j (by simpa using hj))]
  simp only [y32_iff hm hn]
theorem exec_eql32 {o : Oper} {ρ : Operand → Value} {x y : Operand} {t : TypeId} (ho : o.op = .binOp .eql 23 x y t) (m n : Nat) (hx : ρ x = yv 32 m) (hy : ρ y = yv 32 n) (hm : m < M) (hn : n < M) (w : World) :
    (execOp ρ o).run Tryd.prog w = .ok (.value (.bool (decide (m = n)))) w := by
  have he := equal32 9998 m n hm hn w
  unfold yv at *
  unfold execOp
  simp only [ho, hx, hy, Sem.run_bind, run_eqGuard_agg (P := Tryd.prog) (w := w) .eql 23 x y _ _ Tryd.eqGuardType23, run_eql_struct, he, Result.andThen_ok, Sem.run_pure]
theorem exec_neq32 {o : Oper} {ρ : Operand → Value} {x y : Operand} {t : TypeId} (ho : o.op = .binOp .neq 23 x y t) (m n : Nat) (hx : ρ x = yv 32 m) (hy : ρ y = yv 32 n) (hm : m < M) (hn : n < M) (w : World) :
    (execOp ρ o).run Tryd.prog w = .ok (.value (.bool (!decide (m = n)))) w := by
  have he := equal32 9998 m n hm hn w
  unfold yv at *
  unfold execOp
  simp only [ho, hx, hy, Sem.run_bind, run_eqGuard_agg (P := Tryd.prog) (w := w) .neq 23 x y _ _ Tryd.eqGuardType23, run_neq_struct, he, Result.andThen_ok, Sem.run_pure]

theorem equalN (d : Nat) (m n : Nat) (hm : m < M) (hn : n < M) (w : World) : (Op.equalIn (d + 2) 62 (wv 4 m) (wv 4 n)).run Tryd.prog w = .ok (decide (m = n)) w := by
  obtain ⟨i, hi⟩ : ∃ i, Tryd.prog.info? 60 = some i := Option.isSome_iff_exists.1 (by kernel_rfl)
  unfold wv
  rw [run_equalIn_array (w := w) (d + 1) _ _ Tryd.underlying62 hi, cells64]
  rw [eqItems_ints d 60 .u64 .u64 Tryd.underlying60 (fun xs j v w hv => by rw [Nat.mul_one]; exact run_part_plain (w := w) (by kernel_rfl) hv) (fun j => ((dg B m j : Nat) : Int)) (fun j => ((dg B n j : Nat) : Int)) _ _ w (List.range 4)
    (fun j hj => by rw [List.getElem?_toArray]; exact wl_get 4 m j (by simpa using hj)) (fun j hj => by rw [List.getElem?_toArray]; exact wl_get 4 n j (by simpa using hj))]
  simp only [w4_iff hm hn]
theorem exec_eqlN {o : Oper} {ρ : Operand → Value} {x y : Operand} {t : TypeId} (ho : o.op = .binOp .eql 62 x y t) (m n : Nat) (hx : ρ x = wv 4 m) (hy : ρ y = wv 4 n) (hm : m < M) (hn : n < M) (w : World) :
    (execOp ρ o).run Tryd.prog w = .ok (.value (.bool (decide (m = n)))) w := by
  have he := equalN 9998 m n hm hn w
  unfold wv at *
  unfold execOp
  simp only [ho, hx, hy, Sem.run_bind, run_eqGuard_agg (P := Tryd.prog) (w := w) .eql 62 x y _ _ Tryd.eqGuardType62, run_eql_struct, he, Result.andThen_ok, Sem.run_pure]
theorem exec_neqN {o : Oper} {ρ : Operand → Value} {x y : Operand} {t : TypeId} (ho : o.op = .binOp .neq 62 x y t) (m n : Nat) (hx : ρ x = wv 4 m) (hy : ρ y = wv 4 n) (hm : m < M) (hn : n < M) (w : World) :
    (execOp ρ o).run Tryd.prog w = .ok (.value (.bool (!decide (m = n)))) w := by
  have he := equalN 9998 m n hm hn w
  unfold wv at *
  unfold execOp
  simp only [ho, hx, hy, Sem.run_bind, run_eqGuard_agg (P := Tryd.prog) (w := w) .neq 62 x y _ _ Tryd.eqGuardType62, run_neq_struct, he, Result.andThen_ok, Sem.run_pure]

theorem wpList_val {ops : Array Oper} {Q : Exit → Act → World → Prop} {rest : List Oper} {o : Oper} {a : Act} {w : World} (v : Value) (hgd : o.guard = none) (hy : (execOp a.eval o).run Tryd.prog w = .ok (.value v) w)
    (h : wpList Tryd.prog ops Q rest (a.put o.dst v) w) : wpList Tryd.prog ops Q (o :: rest) a w :=
  wpList_plain hgd fun _ hK => by
    unfold Oper.wp
    rw [hy]
    exact hK _ _ h
end Go.Proofs.YteijccjdejjbjaaDoor
namespace Go.Proofs.YteijccjdejjbjaaDoor
open Go.RowKit Go.Shelf ScalarNum

theorem neg_sub {x v c : Nat} (hx : x < L) (h0 : x ≠ 0) (h : v + x = L + c * M) (hv : v < M) : v = (L - x) % L := by
  have hLM : L < M := by decide
  rw [Nat.mod_eq_of_lt (by omega)]
  rcases c with _ | c
  · omega
  · exfalso
    have : M ≤ (c + 1) * M := Nat.le_mul_of_pos_left _ (by omega)
    omega

theorem wpList_store_newN {ops : Array Oper} {Q : Exit → Act → World → Prop} {a : Act} {w : World} {rest : List Oper} {o : Oper} {x y : Operand} {c : Array Value} (n : Nat) (hc : 4 ≤ c.size) (hgd : o.guard = none) (ho : o.op = .store 62 x y)
    (hx : a.eval x = .pointer (some ⟨w.heap.size, 0, none⟩)) (hy : a.eval y = wv 4 n)
    (h : ∀ w2, Grown w w2 → w2.rangeAt w.heap.size 0 (wl 4 n) → w2.there w.heap.size 0 4 → wpList Tryd.prog ops Q rest (a.put o.dst undef) w2) :
    wpList Tryd.prog ops Q (o :: rest) a (w.alloc (.cells c 62)) := by
  have ht := there_alloc_new w 62 c 4 hc
  refine wpList_storeN hgd x y ho w.heap.size n hx hy ht ?_
  exact h _ (grown_setCells (Nat.le_refl _) _ _ (Grown.alloc (Grown.refl _) _ _)) (World.rangeAt_setCells_same _ _ _ (wl 4 n) (by rw [wl_length]; exact ht)) (World.there_setCells ht _ _ _)

set_option maxRecDepth 100000 in
set_option maxHeartbeats 4000000 in
theorem negated_num (x : Nat) (hx : x < L) (w : World) (hT : Tab w) : Calls Tryd.prog 48 #[wv 4 x] w fun e w' => e = .returned (wv 4 ((L - x) % L)) ∧ Grown w w' := by
  have hxM : x < M := Nat.lt_trans hx (by decide)
  rw [wv]
  have h0 := alloc2 w 62 62 (wl 4 x) #[Value.int IntKind.u64 0, Value.int IntKind.u64 0, Value.int IntKind.u64 0, Value.int IntKind.u64 0]
  have h1 : ((w.alloc (.cells (wl 4 x).toArray 62)).alloc (.cells #[Value.int IntKind.u64 0, Value.int IntKind.u64 0, Value.int IntKind.u64 0, Value.int IntKind.u64 0] 62)).heap.size = w.heap.size + 1 + 1 := by simp
  go_enter Tryd.func48, Tryd.ntmps48
  go_wp2_with (with_reducible show wpList _ _ _ ({ dst := _, op := Op.load 62 _, type := _, pos := _, after := _, guard := _ } :: _) _ _; refine Shut.out ?_)
  show wpList _ _ _ _ _ _
  generalize ((w.alloc (Obj.cells (wl 4 x).toArray 62)).alloc (Obj.cells #[Value.int IntKind.u64 0, Value.int IntKind.u64 0, Value.int IntKind.u64 0, Value.int IntKind.u64 0] 62)) = W0 at *
  obtain ⟨r0, t0, t1, g0⟩ := h0
  rw [wl_length] at t0
  have hsz := hT.lt
  have HT := Hid.of hT
  have HX := Hid.of (And.intro r0 (And.intro t0 (And.intro (show W0.there (w.heap.size + 1) 0 4 from t1) (And.intro g0 h1))))
  clear r0 t0 t1 g0 h1 hT
  refine wpList_loadN rfl _ rfl w.heap.size rfl x HX.out.1 ?_
  simp only [Act.put, List.setIfInBounds_toArray, List.set_cons_zero, List.set_cons_succ]
  refine wpList_val (wv 4 0) rfl (by kernel_rfl) ?_
  simp only [Act.put, List.setIfInBounds_toArray, List.set_cons_zero, List.set_cons_succ]
  refine wpList_val (.bool (decide (x = 0))) rfl (exec_eqlN rfl x 0 rfl rfl hxM (by decide) _) ?_
  simp only [Act.put, List.setIfInBounds_toArray, List.set_cons_zero, List.set_cons_succ]
  apply wpList_nil
  by_cases hz : x = 0
  · have e0 := Hid.of (show (L - x) % L = x by rw [hz]; decide)
    rw [decide_eq_true hz]
    clear hz
    go_wp2_with (with_reducible show wpList _ _ _ ({ dst := _, op := Op.load 62 _, type := _, pos := _, after := _, guard := _ } :: _) _ _; refine Shut.out ?_)
    show wpList _ _ _ _ _ _
    refine wpList_loadN rfl _ rfl (w.heap.size) rfl ((L - x) % L) (by rw [e0.out]; exact HX.out.1) ?_
    simp only [Act.put, List.setIfInBounds_toArray, List.set_cons_zero, List.set_cons_succ]
    refine wpList_storeN rfl _ _ rfl (w.heap.size + 1) ((L - x) % L) rfl rfl (HX.out.2.2.1) ?_
    simp only [Act.put]
    apply wpList_nil
    repeat go_step
    refine bodyPost_ret (v := wv 4 ((L - x) % L)) (resultN Tryd.results48 _ _ (w.heap.size + 1) _ ?hp (World.rangeAt_setCells_same _ _ _ _ (by rw [wl_length]; exact HX.out.2.2.1))) ?hd ?_
    case hp => rfl
    case hd => rfl
    exact ⟨rfl, grown_setCells (by omega) _ _ (HX.out.2.2.2.1)⟩
  · rw [decide_eq_false hz]
    go_wp2_with (with_reducible show wpList _ _ _ ({ dst := _, op := Op.load 62 _, type := _, pos := _, after := _, guard := _ } :: _) _ _; refine Shut.out ?_)
    show wpList _ _ _ _ _ _
    refine wpList_loadNo rfl _ rfl 0 4 ?hp2 L ?hr2 ?_
    case hp2 => go_simp
    case hr2 => have := (HT.out.grown HX.out.2.2.2.1) 1 (by decide); rwa [Nat.one_mul, Nat.one_mul, Nat.mod_eq_of_lt (by decide)] at this
    simp only [Act.put, List.setIfInBounds_toArray, List.set_cons_zero, List.set_cons_succ]
    go_wp2_with (with_reducible show wpList _ _ _ ({ dst := _, op := Op.store 62 _ _, type := _, pos := _, after := _, guard := _ } :: _) _ _; refine Shut.out ?_)
    show wpList _ _ _ _ _ _
    have hW : W0.heap.size = w.heap.size + 1 + 1 := HX.out.2.2.2.2
    refine wpList_store_newN L (by simp) rfl rfl rfl rfl (fun w1 hg1 hr1 ht1 => ?_)
    rw [hW] at hr1 ht1
    simp only [Act.put]
    apply wpList_nil
    have hx1 : w1.rangeAt w.heap.size 0 (wl 4 x) := rangeAt_grown HX.out.1 hg1
    have H1 := Hid.of (And.intro hr1 (And.intro ht1 (And.intro (there_grown HX.out.2.2.1 hg1) (grown_trans HX.out.2.2.2.1 hg1))))
    clear hr1 ht1 hg1 HX
    go_wp2_with (with_reducible show wpList _ _ _ ({ dst := _, op := Op.load 62 _, type := _, pos := _, after := _, guard := _ } :: _) _ _; refine Shut.out ?_)
    show wpList _ _ _ _ _ _
    refine wpList_loadN rfl _ rfl w.heap.size rfl x hx1 ?_
    simp only [Act.put, List.setIfInBounds_toArray, List.set_cons_zero, List.set_cons_succ]
    clear hx1
    go_wp2_with fail
    rw [hW]
    refine Calls.mono (sub_num (w.heap.size + 1 + 1) L x (by decide) hxM _ H1.out.1 H1.out.2.1) ?_
    rintro e w2 ⟨rfl, g2, ⟨v, c, r2, e2, v2M⟩, t2⟩
    have ev := neg_sub hx hz e2 v2M
    rw [ev] at r2
    have H2 := Hid.of (And.intro r2 (And.intro (g2.there H1.out.2.2.1 (by omega)) (GB.own H1.out.2.2.2 (by omega) g2)))
    clear H1 g2 r2 e2 v2M t2 ev HT
    dsimp only
    go_wp2_with (with_reducible show wpList _ _ _ ({ dst := _, op := Op.load 62 _, type := _, pos := _, after := _, guard := _ } :: _) _ _; refine Shut.out ?_)
    show wpList _ _ _ _ _ _
    refine wpList_loadN rfl _ rfl (w.heap.size + 1 + 1) rfl ((L - x) % L) (H2.out.1) ?_
    simp only [Act.put, List.setIfInBounds_toArray, List.set_cons_zero, List.set_cons_succ]
    refine wpList_storeN rfl _ _ rfl (w.heap.size + 1) ((L - x) % L) rfl rfl (H2.out.2.1) ?_
    simp only [Act.put]
    apply wpList_nil
    repeat go_step
    refine bodyPost_ret (v := wv 4 ((L - x) % L)) (resultN Tryd.results48 _ _ (w.heap.size + 1) _ ?hp (World.rangeAt_setCells_same _ _ _ _ (by rw [wl_length]; exact H2.out.2.1))) ?hd ?_
    case hp => rfl
    case hd => rfl
    exact ⟨rfl, grown_setCells (by omega) _ _ (H2.out.2.2)⟩
end Go.Proofs.YteijccjdejjbjaaDoor
namespace Go.Proofs.YteijccjdejjbjaaDoor
open Go.RowKit Go.Shelf ScalarNum

structure FX (w0 : World) (b x d v g k : Nat) (wr : World) : Prop where
  rx : wr.rangeAt b 0 (wl 4 v)
  tx : wr.there b 0 4
  eq : v + g * B ^ k = x + d + 15 * (x % B ^ k)
  dv : v / B ^ k = x / B ^ k
  vM : v < M
  g16 : g < 16
  gw : GB b w0 wr

theorem or4 (a g : Nat) (_ha : a < B) (hg : g < 16) : bits .or .u64 (((16 * a) % B : Nat) : Int) (g : Int) = (((16 * a) % B + g : Nat) : Int) := by
  have e : (16 * a) % B = a % 1152921504606846976 * 2 ^ 4 := by
    show (16 * a) % 18446744073709551616 = a % 1152921504606846976 * 16
    omega
  have hB : B = 18446744073709551616 := rfl
  rw [e, bits_or_u64_nat _ _ (by omega) (by omega), Nat.mul_comm _ (2 ^ 4), Nat.two_pow_add_eq_or_of_lt hg]

theorem top8 {v : Nat} (hv : v < M) : dg B v 3 / 72057594037927936 = v / 452312848583266388373324160190187140051835877600158453279131187530910662656 := by
  unfold dg
  rw [Nat.mod_eq_of_lt (Nat.div_lt_of_lt_mul (by rw [Nat.mul_comm, ← Nat.pow_succ']; rw [B4]; exact hv)), Nat.div_div_eq_div_mul, show B ^ 3 * 72057594037927936 = 452312848583266388373324160190187140051835877600158453279131187530910662656 from by decide]

theorem follow_q (x d : Nat) (hx : x < L) (hd : d < 16) : (16 * x + d) / 7237005577332262213973186563042994240829374041602535252466099000494570602496 = x / 452312848583266388373324160190187140051835877600158453279131187530910662656 ∧ x / 452312848583266388373324160190187140051835877600158453279131187530910662656 ≤ 16 := by
  unfold L at hx
  omega

set_option maxRecDepth 100000 in
set_option maxHeartbeats 4000000 in
theorem follow_num (b x d : Nat) (hb : b ≠ 0) (hx : x < L) (hd : d < 16) (w : World) (hT : Tab w) (hr : w.rangeAt b 0 (wl 4 x)) (ht : w.there b 0 4) :
    Calls Tryd.prog 59 #[.pointer (some ⟨b, 0, none⟩), .int .u64 (d : Int)] w fun e w' => e = .returned (.tuple #[]) ∧ GB b w w' ∧ w'.rangeAt b 0 (wl 4 ((16 * x + d) % L)) ∧ w'.there b 0 4 := by
  have hxM : x < M := Nat.lt_trans hx (by decide)
  have d3 : w.cell? ⟨b, 3, none⟩ = some (.int .u64 (dg B x 3 : Nat)) := by
    have := hr 3 _ (wl_get 4 _ 3 (by decide)); rwa [Nat.zero_add] at this
  have hq := top8 hxM
  obtain ⟨fq1, fq2⟩ := follow_q x d hx hd
  rw [← hq] at fq1 fq2
  generalize dg B x 3 = td at *
  obtain ⟨q, hqq⟩ : ∃ q, q = td / 72057594037927936 := ⟨_, rfl⟩
  have hqi : (td : Int) / 72057594037927936 = (q : Int) := by omega
  rw [← hqq] at fq1 fq2
  have h0 : FX w b x d x d 0 w := ⟨hr, ht, by rw [Nat.pow_zero, Nat.mod_one]; omega, rfl, hxM, hd, GB.refl _ _⟩
  have Hq := Hid.of (And.intro fq1 fq2)
  have HT := Hid.of hT
  have H0 := Hid.of h0
  clear hq fq1 fq2 hqq hT hr ht h0
  go_enter Tryd.func59, Tryd.ntmps59
  go_wp2
  clear d3 hqi
  go_loopw [1, 11] (fun v1 v11 wr => ∃ k v g : Nat, v11 = .int .i64 (k : Int) ∧ v1 = .int .u64 (g : Int) ∧ k ≤ 4 ∧ FX w b x d v g k wr) (fun _ v11 _ => 4 - (intOf v11).toNat)
  case atStart => exact ⟨0, x, d, rfl, rfl, by decide, H0.out⟩
  case round =>
    obtain ⟨k, v, g, rfl, rfl, hk, hF⟩ := hrel
    clear H0
    obtain ⟨rx, tx, eq, dv, vM, g16, gw⟩ := hF
    by_cases hlt : k < 4
    · have d1 : wr.cell? ⟨b, k, none⟩ = some (.int .u64 (dg B v k : Nat)) := by
        have := rx k _ (wl_get 4 _ k hlt); rwa [Nat.zero_add] at this
      have d3 : wr.frozen? ⟨b, k, none⟩ = false := by
        have := (tx k hlt).2; rwa [Nat.zero_add] at this
      obtain ⟨s1, s2, s3, s4⟩ := shl_step eq g16 dv
      have hst := st_lt (n := 4) B_pos s1 hlt (by rw [B4]; exact vM)
      have hw1 : dg B v k < 18446744073709551616 := dg_lt B_pos
      have ho := or4 (dg B v k) g hw1 g16
      have e1 : IntKind.u64.wrap ((dg B v k : Int) * 16) = (((16 * dg B v k) % B : Nat) : Int) := by
        rw [IntKind.wrap_u64]
        show _ = ((16 * dg B v k % 18446744073709551616 : Nat) : Int)
        omega
      have e2 : ((dg B v k : Nat) : Int) / 1152921504606846976 = (((16 * dg B v k) / B : Nat) : Int) := by
        show _ = ((16 * dg B v k / 18446744073709551616 : Nat) : Int)
        omega
      generalize (16 * dg B v k) % B + g = rr at *
      generalize (16 * dg B v k) % B = r0 at *
      generalize (16 * dg B v k) / B = qq at *
      generalize dg B v k = vd at *
      have b1 : (k : Int) < 4 := by omega
      have H1 := Hid.of s1
      have H2 := Hid.of s2
      have H3 := Hid.of s3
      have H4 := Hid.of rx
      have H5 := Hid.of tx
      have H6 := Hid.of s4
      have H7 := Hid.of hst
      have H8 := Hid.of gw
      clear s1 s2 s3 rx tx s4 hst gw eq vM g16 dv hw1
      go_wp2
      go_region
      go_wp2
      go_roundw
      case rel =>
        refine ⟨k + 1, st B v k rr, qq, by go_num, rfl, by omega, ?_⟩
        exact ⟨wrange_set H4.out H1.out hlt, there_setCell H5.out _ _, H2.out, H6.out, by rw [← B4]; exact H7.out, H3.out, GB.drewN (GB.setCell H8.out _) 1⟩
      case measure => simp [intOf]; omega
    · have hk4 : k = 4 := by omega
      subst hk4
      rw [B4, Nat.mod_eq_of_lt hxM] at eq
      have e1 : (16 * x + d) % M = v := by
        rw [show 16 * x + d = v + g * M by omega, Nat.add_mul_mod_self_right, Nat.mod_eq_of_lt vM]
      have H := Hid.of (And.intro e1 (And.intro rx (And.intro tx gw)))
      clear rx tx eq vM g16 dv gw e1 hk hlt
      go_wp2_with fail
      obtain ⟨e1, rx, tx, gw⟩ := H.out
      refine Calls.mono (divide_num b q (16 * x + d) hb Hq.out.1 Hq.out.2 _ (HT.out.gb gw hb) (by rw [e1]; exact rx) tx) ?_
      rintro e w1 ⟨rfl, g1, r1, t1⟩
      have H9 := Hid.of (And.intro (GB.trans gw g1) (And.intro r1 t1))
      clear H e1 rx tx gw g1 r1 t1 HT Hq
      dsimp only
      go_wp2
      go_end0
      exact ⟨rfl, H9.out⟩
end Go.Proofs.YteijccjdejjbjaaDoor
