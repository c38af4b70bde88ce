import Derived.Test.YtkegcilcapnpdaaDoorMa
namespace FieldNum

/-- sums -/
def sm (f : Nat → Nat) : Nat → Nat
  | 0 => 0
  | k + 1 => sm f k + f k
theorem sm_congr {f g : Nat → Nat} : ∀ {k : Nat}, (∀ j, j < k → f j = g j) → sm f k = sm g k
  | 0, _ => rfl
  | k + 1, h => by
    show sm f k + f k = sm g k + g k
    rw [sm_congr (fun j hj => h j (by omega)), h k (by omega)]
theorem sm_add (f g : Nat → Nat) : ∀ k, sm (fun j => f j + g j) k = sm f k + sm g k
  | 0 => rfl
  | k + 1 => by
    show sm (fun j => f j + g j) k + (f k + g k) = sm f k + f k + (sm g k + g k)
    rw [sm_add f g k]; omega
theorem sm_scale (c : Nat) (f : Nat → Nat) : ∀ k, sm (fun j => f j * c) k = sm f k * c
  | 0 => by simp [sm]
  | k + 1 => by
    show sm (fun j => f j * c) k + f k * c = (sm f k + f k) * c
    rw [sm_scale c f k, Nat.add_mul]
theorem sm_const (c : Nat) : ∀ k, sm (fun _ => c) k = k * c
  | 0 => by simp [sm]
  | k + 1 => by
    show sm (fun _ => c) k + c = (k + 1) * c
    rw [sm_const c k, Nat.add_mul, Nat.one_mul]
theorem sm_swap (a : Nat → Nat → Nat) (m : Nat) : ∀ k, sm (fun i => sm (fun j => a i j) m) k = sm (fun j => sm (fun i => a i j) k) m
  | 0 => by
    show 0 = sm (fun _ => 0) m
    rw [sm_const, Nat.mul_zero]
  | k + 1 => by
    show sm (fun i => sm (fun j => a i j) m) k + sm (fun j => a k j) m = sm (fun j => sm (fun i => a i j) k + a k j) m
    rw [sm_add, sm_swap a m k]
theorem sm_parity {f g : Nat → Nat} : ∀ {k : Nat}, (∀ j, j < k → f j % 2 = g j % 2) → sm f k % 2 = sm g k % 2
  | 0, _ => rfl
  | k + 1, h => by
    show (sm f k + f k) % 2 = (sm g k + g k) % 2
    have h1 := sm_parity (k := k) (fun j hj => h j (by omega))
    have h2 := h k (by omega)
    omega
def lsum : List Nat → Nat
  | [] => 0
  | x :: t => x + lsum t
theorem lsum_perm {l m : List Nat} (h : List.Perm l m) : lsum l = lsum m := by
  induction h with
  | nil => rfl
  | cons x _ ih => simp [lsum, ih]
  | swap x y l => simp [lsum, Nat.add_left_comm]
  | trans _ _ h1 h2 => exact h1.trans h2
theorem lsum_append (l m : List Nat) : lsum (l ++ m) = lsum l + lsum m := by
  induction l with
  | nil => simp [lsum]
  | cons x t ih => simp [lsum, ih, Nat.add_assoc]
theorem lsum_range (f : Nat → Nat) : ∀ k, lsum ((List.range k).map f) = sm f k
  | 0 => rfl
  | k + 1 => by
    rw [List.range_succ, List.map_append, lsum_append, lsum_range f k]
    simp [lsum, sm]

/-- the rest, its sign, its size -/
def rs (x n k : Nat) : Nat := (k + 1) * x % n
def sg (x n k : Nat) : Nat := if n < 2 * rs x n k then 1 else 0
def tz (x n k : Nat) : Nat := if n < 2 * rs x n k then n - rs x n k else rs x n k
/-- how often it is behind the middle -/
def cn (x n : Nat) : Nat := sm (sg x n) (n / 2)
/-- the sum of the quotients -/
def qs (x n : Nat) : Nat := sm (fun k => (k + 1) * x / n) (n / 2)

section
variable {x n : Nat}
theorem rs_pos (hg : Nat.gcd x n = 1) {k : Nat} (hk : k < n / 2) : 0 < rs x n k := by
  apply Nat.pos_of_ne_zero
  intro h
  have hd : n ∣ (k + 1) * x := Nat.dvd_of_mod_eq_zero h
  have hc : Nat.Coprime n x := by rw [Nat.Coprime, Nat.gcd_comm]; exact hg
  have h2 := Nat.Coprime.dvd_of_dvd_mul_right hc hd
  have := Nat.le_of_dvd (by omega) h2
  omega
theorem rs_lt (hn : n % 2 = 1) (k : Nat) : rs x n k < n := Nat.mod_lt _ (by omega)
theorem tz_in (hn : n % 2 = 1) (hg : Nat.gcd x n = 1) {k : Nat} (hk : k < n / 2) : 1 ≤ tz x n k ∧ tz x n k ≤ n / 2 := by
  have h1 := rs_pos hg hk
  have h2 := rs_lt (x := x) hn k
  unfold tz
  split <;> omega
theorem tz_mod (hn : n % 2 = 1) (k : Nat) : tz x n k = rs x n k ∨ tz x n k + rs x n k = n := by
  have h2 := rs_lt (x := x) hn k
  unfold tz
  split
  · right; omega
  · left; rfl
theorem dvd_sub_of {a b : Nat} (hab : b ≤ a) (h : rs x n a = rs x n b) (hg : Nat.gcd x n = 1) : n ∣ a - b := by
  have hc : Nat.Coprime n x := by rw [Nat.Coprime, Nat.gcd_comm]; exact hg
  refine Nat.Coprime.dvd_of_dvd_mul_right hc ?_
  have := dvd_of_mod_eq (r := n) (x := (a + 1) * x) (y := (b + 1) * x) h
  rwa [← Nat.sub_mul, show a + 1 - (b + 1) = a - b by omega] at this
theorem dvd_add_of {a b : Nat} (h : rs x n a + rs x n b = n) (hg : Nat.gcd x n = 1) : n ∣ a + b + 2 := by
  have hc : Nat.Coprime n x := by rw [Nat.Coprime, Nat.gcd_comm]; exact hg
  refine Nat.Coprime.dvd_of_dvd_mul_right hc ?_
  apply Nat.dvd_of_mod_eq_zero
  rw [show (a + b + 2) * x = (a + 1) * x + (b + 1) * x by rw [← Nat.add_mul]; congr 1; omega, Nat.add_mod]
  show (rs x n a + rs x n b) % n = 0
  rw [h, Nat.mod_self]
theorem tz_inj (hn : n % 2 = 1) (hg : Nat.gcd x n = 1) {a b : Nat} (ha : a < n / 2) (hb : b < n / 2) (h : tz x n a = tz x n b) : a = b := by
  have same : rs x n a = rs x n b → a = b := fun e => by
    rcases Nat.le_total b a with hab | hab
    · have h1 := dvd_sub_of hab e hg
      have := Nat.eq_zero_of_dvd_of_lt h1 (by omega)
      omega
    · have h1 := dvd_sub_of hab e.symm hg
      have := Nat.eq_zero_of_dvd_of_lt h1 (by omega)
      omega
  have opp : rs x n a + rs x n b = n → a = b := fun e => by
    have h1 := dvd_add_of e hg
    have := Nat.le_of_dvd (by omega) h1
    omega
  have l1 := rs_lt (x := x) hn a
  have l2 := rs_lt (x := x) hn b
  rcases tz_mod (x := x) hn a with e1 | e1 <;> rcases tz_mod (x := x) hn b with e2 | e2
  · exact same (by omega)
  · exact opp (by omega)
  · exact opp (by omega)
  · exact same (by omega)
theorem tz_perm (hn : n % 2 = 1) (hg : Nat.gcd x n = 1) : ((List.range (n / 2)).map (tz x n)).Perm ((List.range (n / 2)).map (· + 1)) := by
  refine perm_of ?_ ?_ (by simp)
  · rw [List.Nodup, List.pairwise_map]
    refine List.Pairwise.imp_of_mem (R := (· ≠ ·)) ?_ List.nodup_range
    intro a b ha hb hne he
    exact hne (tz_inj hn hg (List.mem_range.1 ha) (List.mem_range.1 hb) he)
  · intro y hy
    obtain ⟨k, hk, rfl⟩ := List.mem_map.1 hy
    have := tz_in hn hg (List.mem_range.1 hk)
    exact List.mem_map.2 ⟨tz x n k - 1, List.mem_range.2 (by omega), by omega⟩
theorem tz_sum (hn : n % 2 = 1) (hg : Nat.gcd x n = 1) : sm (tz x n) (n / 2) = sm (· + 1) (n / 2) := by
  rw [← lsum_range, ← lsum_range, lsum_perm (tz_perm hn hg)]
theorem one_par (hn : n % 2 = 1) (k : Nat) : ((k + 1) * x) % 2 = ((k + 1) * x / n + tz x n k + sg x n k) % 2 := by
  have h1 := Nat.div_add_mod ((k + 1) * x) n
  have h2 := rs_lt (x := x) hn k
  unfold tz sg
  change n * ((k + 1) * x / n) + rs x n k = (k + 1) * x at h1
  generalize (k + 1) * x / n = q at *
  generalize rs x n k = r at *
  rw [← h1, Nat.add_mod, Nat.mul_mod, hn, Nat.one_mul, Nat.mod_mod]
  split <;> omega
/-- the parity of the count -/
theorem cn_par (hn : n % 2 = 1) (hg : Nat.gcd x n = 1) : (sm (· + 1) (n / 2) * x) % 2 = (qs x n + sm (· + 1) (n / 2) + cn x n) % 2 := by
  have h := sm_parity (k := n / 2) (fun j _ => one_par (x := x) hn j)
  rw [sm_scale x (fun j => j + 1), sm_add (fun j => (j + 1) * x / n + tz x n j) (sg x n), sm_add (fun j => (j + 1) * x / n) (tz x n), tz_sum hn hg] at h
  exact h
theorem cn_odd (hn : n % 2 = 1) (hx : x % 2 = 1) (hg : Nat.gcd x n = 1) : cn x n % 2 = qs x n % 2 := by
  have h := cn_par hn hg
  rw [Nat.mul_mod, hx, Nat.mul_one, Nat.mod_mod] at h
  omega
theorem two_par (hn : n % 2 = 1) (k : Nat) : ((k + 1) * (2 * x) / n) % 2 = sg x n k % 2 := by
  have h1 := Nat.div_add_mod ((k + 1) * x) n
  have h2 := rs_lt (x := x) hn k
  unfold sg
  change n * ((k + 1) * x / n) + rs x n k = (k + 1) * x at h1
  rw [show (k + 1) * (2 * x) = 2 * ((k + 1) * x) by rw [Nat.mul_left_comm], ← h1]
  generalize (k + 1) * x / n = q at *
  generalize rs x n k = r at *
  rw [show 2 * (n * q + r) = 2 * r + n * (2 * q) by rw [Nat.mul_add, Nat.mul_left_comm]; omega, Nat.add_mul_div_left _ _ (by omega)]
  split
  · rename_i hlt
    have : 2 * r / n = 1 := Nat.div_eq_of_lt_le (by omega) (by omega)
    omega
  · rename_i hge
    have : 2 * r / n = 0 := Nat.div_eq_of_lt (by omega)
    omega
theorem cn_two (hn : n % 2 = 1) (hg : Nat.gcd x n = 1) : cn (2 * x) n % 2 = (cn x n + sm (· + 1) (n / 2)) % 2 := by
  have hg2 : Nat.gcd (2 * x) n = 1 := by
    have h2 : Nat.Coprime 2 n := by
      rw [Nat.Coprime, Nat.gcd_rec, hn]
      rfl
    exact Nat.Coprime.mul_left h2 hg
  have h := cn_par hn hg2
  have h1 : qs (2 * x) n % 2 = cn x n % 2 := sm_parity (fun j _ => two_par hn j)
  rw [show sm (· + 1) (n / 2) * (2 * x) = 2 * (sm (· + 1) (n / 2) * x) by rw [Nat.mul_left_comm], Nat.mul_mod_right] at h
  omega
end
theorem tri : ∀ h, sm (· + 1) h * 2 = h * (h + 1)
  | 0 => rfl
  | h + 1 => by
    show (sm (· + 1) h + (h + 1)) * 2 = (h + 1) * (h + 1 + 1)
    rw [Nat.add_mul, tri h]
    grind
theorem tri_par {n : Nat} (hn : n % 2 = 1) : sm (· + 1) (n / 2) % 2 = if n % 8 = 3 ∨ n % 8 = 5 then 1 else 0 := by
  have h := tri (n / 2)
  obtain ⟨q, hq⟩ : ∃ q, q = n / 8 := ⟨_, rfl⟩
  have h8 : n % 8 = 1 ∨ n % 8 = 3 ∨ n % 8 = 5 ∨ n % 8 = 7 := by omega
  rcases h8 with e | e | e | e
  · have : n / 2 = 4 * q := by omega
    rw [this] at h ⊢
    rw [e, if_neg (by decide)]
    have e2 : 4 * q * (4 * q + 1) = 4 * (q * (4 * q + 1)) := by grind
    rw [e2] at h
    omega
  · have : n / 2 = 4 * q + 1 := by omega
    rw [this] at h ⊢
    rw [e, if_pos (by decide)]
    have e2 : (4 * q + 1) * (4 * q + 1 + 1) = 4 * (q * (4 * q + 3)) + 2 := by grind
    rw [e2] at h
    omega
  · have : n / 2 = 4 * q + 2 := by omega
    rw [this] at h ⊢
    rw [e, if_pos (by decide)]
    have e2 : (4 * q + 2) * (4 * q + 2 + 1) = 4 * (q * (4 * q + 5) + 1) + 2 := by grind
    rw [e2] at h
    omega
  · have : n / 2 = 4 * q + 3 := by omega
    rw [this] at h ⊢
    rw [e, if_neg (by decide)]
    have e2 : (4 * q + 3) * (4 * q + 3 + 1) = 4 * (q * (4 * q + 7) + 3) := by grind
    rw [e2] at h
    omega

/-- how many multiples stand below -/
theorem sm_count {n : Nat} (hn : 0 < n) (y : Nat) : ∀ m, sm (fun j => if (j + 1) * n ≤ y then 1 else 0) m = min m (y / n)
  | 0 => by simp [sm]
  | m + 1 => by
    show sm (fun j => if (j + 1) * n ≤ y then 1 else 0) m + (if (m + 1) * n ≤ y then 1 else 0) = _
    rw [sm_count hn y m]
    by_cases h : (m + 1) * n ≤ y
    · have h1 := (Nat.le_div_iff_mul_le hn).2 h
      rw [if_pos h]
      omega
    · have h1 : ¬ m + 1 ≤ y / n := fun h2 => h ((Nat.le_div_iff_mul_le hn).1 h2)
      rw [if_neg h]
      omega
theorem q_count {x n : Nat} (hn : n % 2 = 1) (hx : x % 2 = 1) {k : Nat} (hk : k < n / 2) : (k + 1) * x / n = sm (fun j => if (j + 1) * n ≤ (k + 1) * x then 1 else 0) (x / 2) := by
  rw [sm_count (by omega)]
  have : (k + 1) * x / n ≤ x / 2 := by
    have h1 : (k + 1) * x / n < x / 2 + 1 := by
      rw [Nat.div_lt_iff_lt_mul (by omega)]
      have h2 : (k + 1) * x ≤ (n / 2) * x := Nat.mul_le_mul_right _ (by omega)
      have h3 : 2 * ((n / 2) * x) = (n - 1) * x := by rw [← Nat.mul_assoc]; congr 1; omega
      have h4 : 2 * ((x / 2 + 1) * n) = (x + 1) * n := by rw [← Nat.mul_assoc]; congr 1; omega
      have h5 : (n - 1) * x < (x + 1) * n := by
        rw [Nat.sub_mul, Nat.add_mul, Nat.mul_comm n x]
        omega
      omega
    omega
  omega
/-- Eisenstein's count of the points of a rectangle -/
theorem recip {x n : Nat} (hn : n % 2 = 1) (hx : x % 2 = 1) (hg : Nat.gcd x n = 1) : qs x n + qs n x = (n / 2) * (x / 2) := by
  have e1 : qs x n = sm (fun k => sm (fun j => if (j + 1) * n ≤ (k + 1) * x then 1 else 0) (x / 2)) (n / 2) := sm_congr (fun k hk => q_count hn hx hk)
  have e2 : qs n x = sm (fun k => sm (fun j => if (j + 1) * x ≤ (k + 1) * n then 1 else 0) (n / 2)) (x / 2) := sm_congr (fun k hk => q_count hx hn hk)
  rw [sm_swap] at e2
  rw [e1, e2, ← sm_add]
  have e3 : ∀ k, k < n / 2 → sm (fun j => if (j + 1) * n ≤ (k + 1) * x then 1 else 0) (x / 2) + sm (fun j => if (k + 1) * x ≤ (j + 1) * n then 1 else 0) (x / 2) = x / 2 := by
    intro k hk
    rw [← sm_add, ← Nat.mul_one (x / 2)]
    rw [sm_congr (g := fun _ => 1) (fun j hj => ?_), sm_const, Nat.mul_one]
    have hne : (j + 1) * n ≠ (k + 1) * x := by
      intro h
      have hd : n ∣ (k + 1) * x := ⟨j + 1, by rw [← h, Nat.mul_comm]⟩
      have hc : Nat.Coprime n x := by rw [Nat.Coprime, Nat.gcd_comm]; exact hg
      have h2 := Nat.Coprime.dvd_of_dvd_mul_right hc hd
      have := Nat.le_of_dvd (by omega) h2
      omega
    show (if (j + 1) * n ≤ (k + 1) * x then 1 else 0) + (if (k + 1) * x ≤ (j + 1) * n then 1 else 0) = 1
    split <;> split <;> omega
  rw [sm_congr (g := fun _ => x / 2) e3, sm_const]

/-- Jacobi's symbol -/
def jv (g c : Nat) : Int := if g = 1 then (if c % 2 = 0 then 1 else -1) else 0
def jac (x n : Nat) : Int := jv (Nat.gcd x n) (cn x n)
theorem rs_sub {x n : Nat} (h : n ≤ x) (k : Nat) : rs (x - n) n k = rs x n k := by
  unfold rs
  rw [Nat.mul_sub, Nat.mul_comm (k + 1) n]
  have h1 : n * (k + 1) ≤ (k + 1) * x := by rw [Nat.mul_comm]; exact Nat.mul_le_mul_left _ h
  rw [Nat.sub_mul_mod h1]
theorem jac_sub {x n : Nat} (h : n ≤ x) : jac (x - n) n = jac x n := by
  have hg : Nat.gcd (x - n) n = Nat.gcd x n := Nat.gcd_sub_self_left h
  have hc : cn (x - n) n = cn x n := sm_congr (fun k _ => by unfold sg; rw [rs_sub h])
  unfold jac
  rw [hg, hc]
theorem jac_mod (x n : Nat) : jac (x % n) n = jac x n := by
  have hg : Nat.gcd (x % n) n = Nat.gcd x n := by rw [Nat.gcd_comm x n, Nat.gcd_rec n x]
  have hc : cn (x % n) n = cn x n := sm_congr (fun k _ => by unfold sg rs; rw [Nat.mul_mod_mod])
  unfold jac
  rw [hg, hc]
theorem jac_two {x n : Nat} (hn : n % 2 = 1) : jac (2 * x) n = (if n % 8 = 3 ∨ n % 8 = 5 then -1 else 1) * jac x n := by
  have h2 : Nat.Coprime 2 n := by
    rw [Nat.Coprime, Nat.gcd_rec, hn]
    rfl
  have hg : Nat.gcd (2 * x) n = Nat.gcd x n := Nat.Coprime.gcd_mul_left_cancel x h2
  unfold jac
  rw [hg]
  unfold jv
  by_cases h : Nat.gcd x n = 1
  · rw [if_pos h, if_pos h, cn_two hn h]
    have h1 := tri_par hn
    generalize sm (· + 1) (n / 2) = S at *
    generalize cn x n = c at *
    split at h1 <;> rename_i h3
    · rw [if_pos h3]
      by_cases hc : c % 2 = 0
      · rw [if_neg (by omega), if_pos hc]; rfl
      · rw [if_pos (by omega), if_neg hc]; rfl
    · rw [if_neg h3]
      by_cases hc : c % 2 = 0
      · rw [if_pos (by omega), if_pos hc]; rfl
      · rw [if_neg (by omega), if_neg hc]; rfl
  · rw [if_neg h, if_neg h, Int.mul_zero]
theorem par_mul (a b : Nat) : a * b % 2 = if a % 2 = 1 ∧ b % 2 = 1 then 1 else 0 := by
  rw [Nat.mul_mod]
  rcases Nat.mod_two_eq_zero_or_one a with h | h <;> rcases Nat.mod_two_eq_zero_or_one b with h' | h' <;> simp [h, h']
theorem jac_swap {x n : Nat} (hn : n % 2 = 1) (hx : x % 2 = 1) : jac x n = (if x % 4 = 3 ∧ n % 4 = 3 then -1 else 1) * jac n x := by
  unfold jac
  rw [Nat.gcd_comm n x]
  unfold jv
  by_cases h : Nat.gcd x n = 1
  · have hg2 : Nat.gcd n x = 1 := by rw [Nat.gcd_comm]; exact h
    rw [if_pos h, if_pos h, cn_odd hn hx h, cn_odd hx hn hg2]
    have h1 := recip hn hx h
    have h2 := par_mul (n / 2) (x / 2)
    rw [← h1] at h2
    generalize qs x n = a at *
    generalize qs n x = b at *
    by_cases h3 : x % 4 = 3 ∧ n % 4 = 3
    · rw [if_pos h3]
      rw [if_pos (by omega)] at h2
      by_cases hb : b % 2 = 0
      · rw [if_neg (by omega), if_pos hb]; rfl
      · rw [if_pos (by omega), if_neg hb]; rfl
    · rw [if_neg h3]
      rw [if_neg (by omega)] at h2
      by_cases hb : b % 2 = 0
      · rw [if_pos (by omega), if_pos hb]; rfl
      · rw [if_neg (by omega), if_neg hb]; rfl
  · rw [if_neg h, if_neg h, Int.mul_zero]
theorem jac_zero (n : Nat) : jac 0 n = if n = 1 then 1 else 0 := by
  unfold jac
  rw [Nat.gcd_zero_left]
  unfold jv
  by_cases h : n = 1
  · subst h; rfl
  · rw [if_neg h, if_neg h]
end FieldNum

namespace FieldNum

theorem prod_signs {q c : Nat} {f s g : Nat → Nat} (h : ∀ k, f k % q = c ^ s k * g k % q) : ∀ l : List Nat, prod (l.map f) % q = c ^ lsum (l.map s) * prod (l.map g) % q
  | [] => by simp [prod, lsum]
  | k :: l => by
    show f k * prod (l.map f) % q = c ^ (s k + lsum (l.map s)) * (g k * prod (l.map g)) % q
    rw [Nat.mul_mod, h k, prod_signs h l, ← Nat.mul_mod, Nat.pow_add]
    congr 1
    generalize c ^ s k = a
    generalize c ^ lsum (l.map s) = b
    generalize prod (l.map g) = d
    generalize g k = e
    grind
theorem prod_ndvd {q : Nat} (hq : Pr q) : ∀ l : List Nat, (∀ y ∈ l, ¬ q ∣ y) → ¬ q ∣ prod l
  | [], _ => fun h => by
    have h1 : q ≤ 1 := Nat.le_of_dvd (by decide) h
    have := hq.1
    omega
  | y :: l, h => fun hd => by
    rcases hq.dvd_mul hd with g | g
    · exact h y (by simp) g
    · exact prod_ndvd hq l (fun z hz => h z (by simp [hz])) g
theorem rs_sign {x q : Nat} (hq : q % 2 = 1) (k : Nat) : rs x q k % q = (q - 1) ^ sg x q k * tz x q k % q := by
  have h2 := rs_lt (x := x) hq k
  unfold sg tz
  generalize rs x q k = r at *
  split
  · rw [Nat.pow_one]
    obtain ⟨m, rfl⟩ : ∃ m, q = m + 1 := ⟨q - 1, by omega⟩
    obtain ⟨d, hd⟩ : ∃ d, m + 1 = r + d := ⟨m + 1 - r, by omega⟩
    rw [show m + 1 - 1 = m by omega, show m + 1 - r = d by omega]
    by_cases h0 : d = 0
    · omega
    have e : m * d = r + (d - 1) * (m + 1) := by
      obtain ⟨f, rfl⟩ : ∃ f, d = f + 1 := ⟨d - 1, by omega⟩
      have : m = r + f := by omega
      subst this
      rw [show f + 1 - 1 = f by omega]
      grind
    rw [e, Nat.add_mul_mod_self_right]
  · rw [Nat.pow_zero, Nat.one_mul]
/-- Gauss's lemma -/
theorem gauss {x q : Nat} (hp : Pr q) (hq : q % 2 = 1) (hg : Nat.gcd x q = 1) : x ^ (q / 2) % q = (q - 1) ^ cn x q % q := by
  have h1 := prod_map x q ((List.range (q / 2)).map (· + 1))
  rw [List.map_map, List.length_map, List.length_range] at h1
  have e1 : ((List.range (q / 2)).map ((fun y => x * y % q) ∘ (· + 1))) = (List.range (q / 2)).map (rs x q) := by
    apply List.map_congr_left
    intro k _
    show x * (k + 1) % q = (k + 1) * x % q
    rw [Nat.mul_comm]
  rw [e1, prod_signs (rs_sign hq), lsum_range, prod_perm (tz_perm hq hg)] at h1
  have h2 : ¬ q ∣ prod ((List.range (q / 2)).map (· + 1)) := prod_ndvd hp _ (fun y hy => by
    obtain ⟨k, hk, rfl⟩ := List.mem_map.1 hy
    have := List.mem_range.1 hk
    exact Pr.not_dvd_of_lt (by omega) (by omega))
  exact (hp.cancel h2 h1).symm
theorem neg_pow (c : Nat) : (p - 1) ^ c % p = if c % 2 = 0 then 1 else p - 1 := by
  have k3 : (p - 1) ^ 2 % p = 1 := by decide +kernel
  have k5 : 1 % p = 1 := by decide +kernel
  have k4 : (p - 1) % p = p - 1 := by decide +kernel
  have hm : ∀ m, (p - 1) ^ (2 * m) % p = 1 := fun m => by
    rw [Nat.pow_mul, Nat.pow_mod, k3, Nat.one_pow, k5]
  by_cases h : c % 2 = 0
  · rw [if_pos h, show c = 2 * (c / 2) by omega]
    exact hm _
  · rw [if_neg h, show c = 2 * (c / 2) + 1 by omega, Nat.pow_succ, Nat.mul_mod, hm, Nat.one_mul, Nat.mod_mod]
    exact k4
/-- Legendre's symbol is Jacobi's -/
theorem jac_p (x : Nat) : jac x p = leg x := by
  have ho : p % 2 = 1 := by decide +kernel
  by_cases h : x % p = 0
  · have hg : Nat.gcd x p = p := by
      rw [Nat.gcd_comm, Nat.gcd_rec, h, Nat.gcd_zero_left]
    unfold jac jv
    rw [hg, if_neg (by decide +kernel), (leg_zero_iff x).2 h]
  · have hg : Nat.gcd x p = 1 := by
      rw [Nat.gcd_comm]
      exact pr_p.coprime (fun hd => h (Nat.mod_eq_zero_of_dvd hd))
    have h1 : hp x = (p - 1) ^ cn x p % p := by
      rw [← gauss pr_p ho hg, hp_def]
      rw [show (p - 1) / 2 = p / 2 by decide +kernel]
    rw [neg_pow] at h1
    unfold jac jv leg
    rw [if_pos hg, h1]
    have k1 : p - 1 ≠ 0 := by decide +kernel
    have k2 : p - 1 ≠ 1 := by decide +kernel
    by_cases hc : cn x p % 2 = 0
    · rw [if_pos hc, if_pos hc, if_neg (by decide), if_pos rfl]
    · rw [if_neg hc, if_neg hc, if_neg k1, if_neg k2]

/-- what the walk by reciprocity keeps -/
structure YS (a x n : Nat) (s : Int) : Prop where
  no : n % 2 = 1
  np : n ≤ p
  xp : x ≤ p
  sg : s = 1 ∨ s = -1
  eq : s * jac x n = leg a
theorem YS.start (a : Nat) : YS a (a % p) p 1 := ⟨by decide +kernel, Nat.le_refl _, Nat.le_of_lt (Nat.mod_lt _ p_pos), .inl rfl, by rw [Int.one_mul, jac_mod, jac_p]⟩
theorem YS.half {a x n : Nat} {s : Int} (h : YS a x n s) (he : x % 2 = 0) : YS a (x / 2) n (if n % 8 = 3 ∨ n % 8 = 5 then -s else s) := by
  have e : x = 2 * (x / 2) := by omega
  have h1 := h.eq
  rw [e, jac_two h.no] at h1
  refine ⟨h.no, h.np, by have := h.xp; omega, ?_, ?_⟩
  · have := h.sg
    split <;> omega
  · rw [← h1]
    split
    · rw [← Int.mul_assoc, Int.mul_comm s (-1)]
      congr 1
      omega
    · rw [Int.one_mul]
theorem YS.swap {a x n : Nat} {s : Int} (h : YS a x n s) (hx : x % 2 = 1) : YS a n x (if n % 4 = 3 ∧ x % 4 = 3 then -s else s) := by
  have h1 := h.eq
  rw [jac_swap h.no hx] at h1
  refine ⟨hx, h.xp, h.np, ?_, ?_⟩
  · have := h.sg
    split <;> omega
  · rw [← h1]
    by_cases c : n % 4 = 3 ∧ x % 4 = 3
    · rw [if_pos c, if_pos ⟨c.2, c.1⟩, ← Int.mul_assoc, Int.mul_comm s (-1)]
      congr 1
      omega
    · rw [if_neg c, if_neg (fun d => c ⟨d.2, d.1⟩), Int.one_mul]
theorem YS.less {a x n : Nat} {s : Int} (h : YS a x n s) (hle : n ≤ x) : YS a (x - n) n s :=
  ⟨h.no, h.np, by have := h.xp; omega, h.sg, by rw [jac_sub hle]; exact h.eq⟩
theorem YS.done {a n : Nat} {s : Int} (h : YS a 0 n s) : leg a = if n = 1 then s else 0 := by
  rw [← h.eq, jac_zero]
  split
  · rw [Int.mul_one]
  · rw [Int.mul_zero]
end FieldNum

namespace FieldNum

theorem rt_root2 {u v : Nat} (h : rok u v) : RootOf u v (rt u v) := by
  have key : ∃ z, v * (z * z) % p = u % p ∧ (u % p = 0 → z % p = 0) := by
    have hs := root_sq (u := u) (v := v) (w := u * v ^ 7) (r := u * v ^ 3 * rp (u * v ^ 7)) (s := v * ((u * v ^ 3 * rp (u * v ^ 7)) * (u * v ^ 3 * rp (u * v ^ 7)))) rfl rfl rfl
    have h0 : u % p = 0 → u * v ^ 3 * rp (u * v ^ 7) % p = 0 := by
      intro hu
      rw [Nat.mul_assoc, Nat.mul_mod, hu]; simp
    generalize u * v ^ 3 * rp (u * v ^ 7) = r at *
    rcases root_found h hs with e | e
    · exact ⟨r, e, h0⟩
    · exact ⟨r * Im, root_turn e rfl, fun hu => by rw [Nat.mul_mod, h0 hu]; simp⟩
  obtain ⟨z, h1, h2⟩ := key
  by_cases ho : z % p % 2 = 1
  · have := root_odd h1 h2 ho
    rw [rt_eq this]; exact this
  · have := root_even h1 h2 ho
    rw [rt_eq this]; exact this
theorem rok_no {u v : Nat} (hu : u % p ≠ 0) (hv : v % p = 0) : ¬ rok u v := by
  rintro (h | h)
  · exact hu h
  · exact absurd (hp_one_ne h) (by rw [Nat.mul_mod, hv]; simp)
theorem rt_null {u v : Nat} (h : u % p = 0) : rt u v = 0 := (rt_root2 (.inl h)).2.2.2 h
/-- the quotient's symbol -/
theorem hp_quot {u v : Nat} (hv : v % p ≠ 0) : hp (u * inv v % p) = hp (u * v) := by
  have h1 : u * v % p = (u * inv v % p) * (v * v) % p := by
    rw [Nat.mod_mul_mod, show u * inv v * (v * v) = u * v * (v * inv v) by grind, Nat.mul_mod (u * v), mul_inv hv, Nat.mul_one, Nat.mod_mod]
  have e : hp (u * v) = hp ((u * inv v % p) * (v * v)) := by rw [← hp_mod (u * v), h1, hp_mod]
  rw [e]
  generalize u * inv v % p = q
  rw [hp_mul', hp_sq1 hv, Nat.mul_one]
  exact (Nat.mod_eq_of_lt (hp_lt' _)).symm
theorem leg_quot {u v : Nat} (hu : u % p ≠ 0) (hv : v % p ≠ 0) : leg (u * inv v % p) = 1 ↔ rok u v := by
  unfold leg
  rw [hp_quot hv]
  have k1 : p - 1 ≠ 1 := by decide +kernel
  have k0 : p - 1 ≠ 0 := by decide +kernel
  unfold rok
  rcases hp_cases (u * v) with ⟨_, h⟩ | ⟨_, h | h⟩ <;> simp [h, hu, k1, k0]
def Er : Nat := 7237005577332262213973186563042994240829374041602535252466099000494570602494
def Fr2 : Nat := 14474011154664524427946373126085988481658748083205070504932198000989141204987
theorem Er_two : Er + Er = 1 + (p - 1) / 4 := by decide +kernel
theorem Fr_eq : Fr2 = (p - 1) / 4 := by decide +kernel
/-- the power and its square -/
theorem er_sq (a : Nat) {e : Nat} (he : e = Er) : (a ^ e % p) * (a ^ e % p) % p = a * fq a % p := by
  subst he
  unfold fq
  rw [← Nat.mul_mod, ← Nat.pow_add, Er_two, Nat.pow_add, Nat.pow_one, Nat.mul_mod_mod]
theorem fq_pm {a : Nat} (h : hp a = 1) : fq a = 1 ∨ fq a = p - 1 := sq_one (fq_lt a) (by rw [fq_sq, h])
theorem sq_pow4 (c : Nat) {f : Nat} (hf : f = (p - 1) / 4) : (c ^ f % p) * (c ^ f % p) % p = hp c := by
  subst hf
  exact fq_sq c
theorem er_turn {a : Nat} (ha : a < p) (h : hp a = 1) {e f : Nat} (he : e = Er) (hf : f = Fr2) (hs : ¬ (a ^ e % p) * (a ^ e % p) % p = a) :
    ((a ^ e % p) * (2 ^ f % p) % p) * ((a ^ e % p) * (2 ^ f % p) % p) % p = a := by
  rw [er_sq a he] at hs
  have h2 : fq a = p - 1 := by
    rcases fq_pm h with g | g
    · exact absurd (by rw [g, Nat.mul_one, Nat.mod_eq_of_lt ha]) hs
    · exact g
  have hi : (2 ^ f % p) * (2 ^ f % p) % p = p - 1 := by
    exact (sq_pow4 2 (hf.trans Fr_eq)).trans hp_two
  have e1 := er_sq a he
  generalize a ^ e % p = r at *
  generalize 2 ^ f % p = i at *
  rw [← Nat.mul_mod, show r * i * (r * i) = (r * r) * (i * i) by grind, Nat.mul_mod, e1, hi, h2, mul_p1, mul_p1, ng_ng, Nat.mod_eq_of_lt ha]
theorem root_of_sq {q r : Nat} (hr : r < p) (hs : r * r % p = q) (hq : q ≠ 0) : RootOf q 1 (if r % 2 = 1 then ng r else r) := by
  have h1 : 1 * (r * r) % p = q % p := by rw [Nat.one_mul, hs]; exact (Nat.mod_eq_of_lt (hs ▸ Nat.mod_lt _ p_pos)).symm
  have h0 : q % p = 0 → r % p = 0 := fun h => absurd ((Nat.mod_eq_of_lt (hs ▸ Nat.mod_lt _ p_pos)).symm.trans h) hq
  have hm : r % p = r := Nat.mod_eq_of_lt hr
  by_cases ho : r % 2 = 1
  · rw [if_pos ho]
    exact root_odd h1 h0 (by rw [hm]; exact ho)
  · rw [if_neg ho]
    have := root_even h1 h0 (by rw [hm]; exact ho)
    rwa [hm] at this
/-- a root of the quotient is a root of the ratio -/
theorem root_ratio {u v r : Nat} (hu : u % p ≠ 0) (hv : v % p ≠ 0) (h : RootOf (u * inv v % p) 1 r) : RootOf u v r := by
  refine ⟨h.1, h.2.1, ?_, fun h0 => absurd h0 hu⟩
  have h1 := h.2.2.1
  rw [Nat.one_mul, Nat.mod_mod] at h1
  rw [Nat.mul_mod, h1, ← Nat.mul_mod, show v * (u * inv v) = u * (v * inv v) by grind, Nat.mul_mod, mul_inv hv, Nat.mul_one, Nat.mod_mod]
end FieldNum
