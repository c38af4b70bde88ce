import Derived.Test.YtfnbodpbdfeiiaaDoorWords
namespace FieldNum

theorem p_pos : 0 < p := by decide +kernel
theorem p_big : 2 ≤ p := by decide +kernel
theorem one_lt_p : 1 < p := by decide +kernel
theorem lt256 {n : Nat} (h : n < p) : n < 115792089237316195423570985008687907853269984665640564039457584007913129639936 := by
  have : p = 57896044618658097711785492504343953926634992332820282019728792003956564819949 := rfl
  omega
theorem mod_lt256 (n : Nat) : n % p < 115792089237316195423570985008687907853269984665640564039457584007913129639936 := lt256 (Nat.mod_lt _ p_pos)

/-- a - b modulo p -/
def sb (a b : Nat) : Nat := (a + (p - b % p)) % p
/-- -a modulo p -/
def ng (a : Nat) : Nat := sb 0 a

theorem sb_lt (a b : Nat) : sb a b < p := Nat.mod_lt _ p_pos
theorem ng_lt (a : Nat) : ng a < p := Nat.mod_lt _ p_pos

theorem sb_add (a b : Nat) : (sb a b + b) % p = a % p := by
  unfold sb
  rw [Nat.mod_add_mod]
  have h1 : b % p < p := Nat.mod_lt _ p_pos
  have h2 : b = b % p + p * (b / p) := (Nat.mod_add_div b p).symm
  have : a + (p - b % p) + b = a + p * (1 + b / p) := by
    generalize hq : b / p = q at *
    generalize hr : b % p = r at *
    rw [h2, Nat.mul_add, Nat.mul_one]; omega
  rw [this, Nat.add_mul_mod_self_left]

theorem add_cancel {x y c : Nat} (h : (x + c) % p = (y + c) % p) : x % p = y % p := by
  have key : ∀ x y : Nat, (x + c) % p = (y + c) % p → y ≤ x → x % p = y % p := by
    intro x y h hle
    have hd := dvd_of_mod_eq h
    have e : x + c - (y + c) = x - y := by omega
    rw [e] at hd
    exact mod_eq_of_dvd hd hle
  rcases Nat.le_total y x with hle | hle
  · exact key x y h hle
  · exact (key y x h.symm hle).symm

theorem sb_uniq {z a b : Nat} (hz : z < p) (h : (z + b) % p = a % p) : z = sb a b := by
  have := add_cancel (h.trans (sb_add a b).symm)
  rwa [Nat.mod_eq_of_lt hz, Nat.mod_eq_of_lt (sb_lt a b)] at this

theorem sb_mod (a b : Nat) : sb (a % p) b = sb a b := by unfold sb; rw [Nat.mod_add_mod]
theorem sb_mod' (a b : Nat) : sb a (b % p) = sb a b := by unfold sb; rw [Nat.mod_mod]
theorem ng_mod (a : Nat) : ng (a % p) = ng a := sb_mod' 0 a

theorem sub_back (a b : Nat) : sb ((a + b) % p) b = a % p :=
  (sb_uniq (Nat.mod_lt _ p_pos) (by rw [Nat.mod_add_mod, Nat.mod_mod])).symm
theorem add_ng (a : Nat) : (a + ng a) % p = 0 := by
  have := sb_add 0 a
  rw [Nat.add_comm]; simpa [ng] using this
theorem ng_mul (a b : Nat) : ng a * b % p = ng (a * b % p) := by
  apply sb_uniq (Nat.mod_lt _ p_pos)
  rw [← Nat.add_mod, ← Nat.add_mul, Nat.mul_mod, Nat.add_comm, add_ng]; simp
theorem ng_zero : ng 0 = 0 := by decide +kernel
theorem ng_eq_zero {a : Nat} (h : ng a = 0) : a % p = 0 := by
  have := add_ng a
  rw [h] at this; simpa using this
theorem ng_ng (a : Nat) : ng (ng a) = a % p := by
  refine (sb_uniq (Nat.mod_lt _ p_pos) ?_).symm
  rw [Nat.mod_add_mod, add_ng]; rfl

/-- the inverse -/
def inv (a : Nat) : Nat := a ^ (p - 2) % p
theorem inv_lt (a : Nat) : inv a < p := Nat.mod_lt _ p_pos

theorem pow_mod_p (a n : Nat) : (a % p) ^ n % p = a ^ n % p := (Nat.pow_mod a n p).symm

theorem mul_inv {a : Nat} (h : a % p ≠ 0) : a * inv a % p = 1 := by
  unfold inv
  rw [Nat.mul_mod_mod, Nat.mul_comm, ← Nat.pow_succ]
  have e : (p - 2).succ = p - 1 := by decide +kernel
  rw [e]
  exact fermat pr_p (fun hd => h ((Nat.dvd_iff_mod_eq_zero).1 hd))
theorem inv_of_zero {a : Nat} (h : a % p = 0) : inv a = 0 := by
  unfold inv
  rw [← pow_mod_p, h, Nat.zero_pow (by decide +kernel)]; rfl
theorem inv_mod (a : Nat) : inv (a % p) = inv a := by unfold inv; rw [pow_mod_p]
theorem inv_mul (a b : Nat) : inv (a * b % p) = inv a * inv b % p := by
  rw [inv_mod]; unfold inv
  rw [← Nat.mul_mod, Nat.mul_pow]
theorem inv_ne {a : Nat} (h : a % p ≠ 0) : inv a % p ≠ 0 := by
  intro h0
  have := mul_inv h
  rw [Nat.mul_mod, h0] at this
  simp at this
theorem inv_inv (a : Nat) : inv (inv a) = a % p := by
  by_cases h : a % p = 0
  · rw [inv_of_zero h, h, inv_of_zero (by decide +kernel)]
  · have h1 := mul_inv h
    have h2 := mul_inv (inv_ne h)
    have h3 : inv (inv a) * inv a % p = a * inv a % p := by rw [h1, Nat.mul_comm, h2]
    have h4 : ¬ p ∣ inv a := fun hd => inv_ne h ((Nat.dvd_iff_mod_eq_zero).1 hd)
    have := pr_p.cancel h4 h3
    rwa [Nat.mod_eq_of_lt (inv_lt _)] at this
theorem inv_uniq {a x : Nat} (hx : x < p) (h : a * x % p = 1) : x = inv a := by
  have ha : a % p ≠ 0 := by
    intro h0; rw [Nat.mul_mod, h0] at h; simp at h
  have h1 := mul_inv ha
  have h4 : ¬ p ∣ a := fun hd => ha ((Nat.dvd_iff_mod_eq_zero).1 hd)
  have := pr_p.cancel h4 (a := x) (b := inv a) (by rw [Nat.mul_comm, h, Nat.mul_comm, h1])
  rwa [Nat.mod_eq_of_lt (inv_lt _), Nat.mod_eq_of_lt hx] at this
theorem half_twice : (inv 2 + inv 2) % p = 1 := by
  have : inv 2 + inv 2 = 2 * inv 2 := by omega
  rw [this]; exact mul_inv (by decide +kernel)

/-- the half power: Euler's -/
def hp (a : Nat) : Nat := a ^ ((p - 1) / 2) % p
theorem hp_def (a : Nat) : hp a = a ^ ((p - 1) / 2) % p := rfl
theorem hp_pm (a : Nat) : hp a = pm a p 256 ((p - 1) / 2) := (hp_def a).trans (pm_eq a p 256 ((p - 1) / 2) (by decide +kernel)).symm
theorem hp_mod (a : Nat) : hp (a % p) = hp a := by unfold hp; rw [pow_mod_p]
theorem hp_sq {a : Nat} (h : a % p ≠ 0) : hp a * hp a % p = 1 := by
  unfold hp
  rw [← Nat.mul_mod, ← Nat.pow_two, ← Nat.pow_mul]
  have e : (p - 1) / 2 * 2 = p - 1 := by decide +kernel
  rw [e]
  exact fermat pr_p (fun hd => h ((Nat.dvd_iff_mod_eq_zero).1 hd))
theorem hp_zero {a : Nat} (h : a % p = 0) : hp a = 0 := by
  unfold hp
  rw [← pow_mod_p, h, Nat.zero_pow (by decide +kernel)]; rfl
theorem sq_one {x : Nat} (hx : x < p) (h : x * x % p = 1) : x = 1 ∨ x = p - 1 := by
  have h0 : x ≠ 0 := by rintro rfl; simp at h
  have hd : p ∣ (x - 1) * (x + 1) := by
    have e : (x - 1) * (x + 1) = x * x - 1 := by
      obtain ⟨y, rfl⟩ := Nat.exists_eq_succ_of_ne_zero h0
      simp only [Nat.succ_eq_add_one, Nat.add_sub_cancel, Nat.mul_add, Nat.add_mul]; omega
    rw [e]
    apply dvd_of_mod_eq
    rw [h]; decide +kernel
  rcases pr_p.dvd_mul hd with g | g
  · left
    have := Nat.eq_zero_of_dvd_of_lt g (by omega)
    omega
  · right
    have := Nat.le_of_dvd (by omega) g
    omega
theorem hp_cases (a : Nat) : (a % p = 0 ∧ hp a = 0) ∨ (a % p ≠ 0 ∧ (hp a = 1 ∨ hp a = p - 1)) := by
  by_cases h : a % p = 0
  · exact .inl ⟨h, hp_zero h⟩
  · exact .inr ⟨h, sq_one (Nat.mod_lt _ p_pos) (hp_sq h)⟩
theorem hp_mul (a b : Nat) : hp (a * b % p) = hp a * hp b % p := by
  rw [hp_mod]; unfold hp
  rw [← Nat.mul_mod, Nat.mul_pow]
theorem hp_neg_one : hp (p - 1) = 1 := (hp_pm (p - 1)).trans (by decide +kernel)
theorem hp_two : hp 2 = p - 1 := (hp_pm 2).trans (by decide +kernel)

/-- Legendre's symbol -/
def leg (a : Nat) : Int := if hp a = 0 then 0 else if hp a = 1 then 1 else -1
theorem leg_zero_iff (a : Nat) : leg a = 0 ↔ a % p = 0 := by
  unfold leg
  rcases hp_cases a with ⟨h, e⟩ | ⟨h, e | e⟩
  · simp [h, e]
  · simp [h, e]
  · have : p - 1 ≠ 0 := by decide +kernel
    have : p - 1 ≠ 1 := by decide +kernel
    simp [*]
theorem leg_mul (a b : Nat) : leg (a * b % p) = leg a * leg b := by
  unfold leg
  rw [hp_mul]
  have k1 : p - 1 ≠ 0 := by decide +kernel
  have k2 : p - 1 ≠ 1 := by decide +kernel
  have k3 : (p - 1) * (p - 1) % p = 1 := by decide +kernel
  have k4 : (p - 1) % p = p - 1 := by decide +kernel
  have k5 : 1 % p = 1 := by decide +kernel
  rcases hp_cases a with ⟨h, e⟩ | ⟨h, e | e⟩ <;> rcases hp_cases b with ⟨h', e'⟩ | ⟨h', e' | e'⟩ <;> simp [e, e', k1, k2, k3, k4, k5]
theorem leg_mod (a : Nat) : leg (a % p) = leg a := by unfold leg; rw [hp_mod]
theorem leg_neg_one : leg (p - 1) = 1 := by unfold leg; rw [hp_neg_one]; rfl
theorem leg_two : leg 2 = -1 := by
  unfold leg; rw [hp_two]
  have k1 : p - 1 ≠ 0 := by decide +kernel
  have k2 : p - 1 ≠ 1 := by decide +kernel
  simp [k1, k2]
end FieldNum
