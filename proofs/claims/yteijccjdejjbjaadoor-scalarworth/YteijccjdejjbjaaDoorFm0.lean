import Derived.Test.YteijccjdejjbjaaDoorDf
import Derived.Test.YteijccjdejjbjaaDoorRb
namespace ScalarNum

theorem adds_step {X N N' : Nat} {d c : Int} {i : Nat} (hN : (N : Int) = d + 2 * (N' : Int)) (hc : c = ((X / 2 ^ i : Nat) : Int) - (N : Int)) (hb : -256 ≤ c ∧ c ≤ 256) (hd : -128 ≤ d ∧ d ≤ 128) :
    c + d - ((X / 2 ^ i % 2 : Nat) : Int) = 2 * (((X / 2 ^ (i + 1) : Nat) : Int) - (N' : Int)) ∧ -256 ≤ ((X / 2 ^ (i + 1) : Nat) : Int) - (N' : Int) ∧ ((X / 2 ^ (i + 1) : Nat) : Int) - (N' : Int) ≤ 256 ∧ X / 2 ^ i % 2 ≤ 1 := by
  rw [Nat.pow_succ, ← Nat.div_div_eq_div_mul]
  generalize X / 2 ^ i = q at *
  omega
theorem tmod_two (z : Int) : (2 * z).tmod 2 = 0 := Int.mul_tmod_right 2 z
theorem tdiv_two (z : Int) : (2 * z).tdiv 2 = z := Int.mul_tdiv_cancel_left z (by decide)
theorem tmod_odd {z : Int} (h : z % 2 = 1) : ¬ z.tmod 2 = 0 := by
  intro e
  have := Int.dvd_of_tmod_eq_zero e
  omega

/-- the sign of the form: how many low bits of the number are 0 -/
def Zs (k X i : Nat) (last : Int) : Prop := ∀ m : Nat, (m : Int) + ((i : Int) - last) ≤ (k : Int) → nn k X i % 2 ^ m = 0
theorem Zs_start (k X : Nat) : Zs k X 0 (-(k : Int)) := by
  intro m hm
  have : m = 0 := by omega
  subst this
  rw [Nat.pow_zero, Nat.mod_one]
theorem nd_zero_iff {k N : Nat} (hk : 1 ≤ k) : nd k N = 0 ↔ N % 2 = 0 := by
  constructor
  · intro h
    have h2 := nq_eq k N
    have h3 := nq_even (N := N) hk
    rw [h] at h2
    have : nq k N = N := by omega
    rwa [this] at h3
  · intro h; unfold nd; rw [if_pos h]
theorem half_zero {N m : Nat} (h : N % 2 ^ (m + 1) = 0) : N / 2 % 2 ^ m = 0 := by
  have h1 := Nat.div_add_mod N (2 ^ (m + 1))
  rw [h, Nat.add_zero, Nat.pow_succ] at h1
  rw [← h1, show 2 ^ m * 2 * (N / (2 ^ m * 2)) = 2 * (2 ^ m * (N / (2 ^ m * 2))) by rw [Nat.mul_comm (2 ^ m) 2, Nat.mul_assoc], Nat.mul_div_cancel_left _ (by decide), Nat.mul_mod_right]
theorem Zs_even {k X i : Nat} {last : Int} (hk : 1 ≤ k) (h : Zs k X i last) (hd : dn k X i = 0) : Zs k X (i + 1) last := by
  intro m hm
  have he : nn k X i % 2 = 0 := (nd_zero_iff hk).1 hd
  have h1 := h (m + 1) (by omega)
  show nq k (nn k X i) / 2 % 2 ^ m = 0
  have : nq k (nn k X i) = nn k X i := by unfold nq; rw [if_pos he]
  rw [this]
  exact half_zero h1
theorem nq_mult {k N : Nat} (h : ¬ N % 2 = 0) : nq k N % 2 ^ k = 0 := by
  have h1 := Nat.div_add_mod N (2 ^ k)
  have h2 : N - N % 2 ^ k = 2 ^ k * (N / 2 ^ k) := by
    generalize 2 ^ k * (N / 2 ^ k) = q at *
    omega
  unfold nq
  rw [if_neg h]
  split
  · rw [h2]; exact Nat.mul_mod_right _ _
  · rw [h2, Nat.add_mod_right]; exact Nat.mul_mod_right _ _
theorem Zs_odd {k X i : Nat} (hk : 1 ≤ k) (hd : ¬ dn k X i = 0) : Zs k X (i + 1) (i : Int) := by
  intro m hm
  have he : ¬ nn k X i % 2 = 0 := fun h => hd ((nd_zero_iff hk).2 h)
  have h1 := nq_mult (k := k) he
  show nq k (nn k X i) / 2 % 2 ^ m = 0
  have hm2 : m + 1 ≤ k := by omega
  apply half_zero
  obtain ⟨t, ht⟩ : ∃ t, 2 ^ k = 2 ^ (m + 1) * 2 ^ t := ⟨k - (m + 1), by rw [← Nat.pow_add]; congr 1; omega⟩
  have h3 := Nat.div_add_mod (nq k (nn k X i)) (2 ^ k)
  rw [h1, Nat.add_zero, ht, Nat.mul_assoc] at h3
  rw [← h3, Nat.mul_mod_right]
theorem Zs_gap {k X i : Nat} {last : Int} (hk : 1 ≤ k) (h : Zs k X i last) (hd : ¬ dn k X i = 0) : ¬ (i : Int) - last < (k : Int) := by
  intro hlt
  have he : ¬ nn k X i % 2 = 0 := fun h => hd ((nd_zero_iff hk).2 h)
  have := h 1 (by omega)
  rw [Nat.pow_one] at this
  exact he this
theorem dn_within {k X i : Nat} (hk : 2 ≤ k) (hd : ¬ dn k X i = 0) : dn k X i % 2 = 1 ∧ ¬ ((2 ^ (k - 1) : Nat) : Int) ≤ dn k X i ∧ ¬ dn k X i ≤ -((2 ^ (k - 1) : Nat) : Int) := by
  obtain ⟨h1, h2, h3⟩ := nd_bounds (w := k) (N := nn k X i) (by omega)
  obtain ⟨_, h4⟩ := h3 hd
  have he : ∃ t, 2 ^ (k - 1) = 2 * t := ⟨2 ^ (k - 2), by rw [← Nat.pow_succ']; congr 1; omega⟩
  obtain ⟨t, ht⟩ := he
  unfold dn
  rw [ht] at h1 h2 ⊢
  generalize nd k (nn k X i) = d at *
  omega
theorem dn_small {k X i : Nat} (hk : 2 ≤ k) (hk8 : k ≤ 8) : -128 ≤ dn k X i ∧ dn k X i ≤ 128 := by
  obtain ⟨h1, h2, _⟩ := nd_bounds (w := k) (N := nn k X i) (by omega)
  have h3 : 2 ^ (k - 1) ≤ 2 ^ 7 := Nat.pow_le_pow_right (by decide) (by omega)
  unfold dn
  generalize 2 ^ (k - 1) = H at *
  generalize nd k (nn k X i) = d at *
  omega
theorem dn_i8 {k X i : Nat} (hk : 2 ≤ k) (hk8 : k ≤ 8) : -128 ≤ dn k X i ∧ dn k X i ≤ 127 := by
  have h1 := dn_small (X := X) (i := i) hk hk8
  by_cases h : dn k X i = 0
  · omega
  · have h2 := dn_within (i := i) hk h
    have h3 : 2 ^ (k - 1) ≤ 2 ^ 7 := Nat.pow_le_pow_right (by decide) (by omega)
    generalize 2 ^ (k - 1) = H at *
    omega
end ScalarNum
