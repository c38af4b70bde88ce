import Derived.Test.YtkegcilcapnpdaaDoorZJb
namespace FieldNum

theorem prod_signs {q c : Nat} {f s g : Nat → Nat} (h : ∀ k, f k % q = c ^ s k * g k % q) : ∀ l : List Nat, prod (l.map f) % q = c ^ lsum (l.map s) * prod (l.map g) % q
  | [] => by simp [prod, lsum]
  | k :: l => by
    show f k * prod (l.map f) % q = c ^ (s k + lsum (l.map s)) * (g k * prod (l.map g)) % q
    rw [Nat.mul_mod, h k, prod_signs h l, ← Nat.mul_mod, Nat.pow_add]
    congr 1
    generalize c ^ s k = a
    generalize c ^ lsum (l.map s) = b
    generalize prod (l.map g) = d
    generalize g k = e
    grind
theorem prod_ndvd {q : Nat} (hq : Pr q) : ∀ l : List Nat, (∀ y ∈ l, ¬ q ∣ y) → ¬ q ∣ prod l
  | [], _ => fun h => by
    have h1 : q ≤ 1 := Nat.le_of_dvd (by decide) h
    have := hq.1
    omega
  | y :: l, h => fun hd => by
    rcases hq.dvd_mul hd with g | g
    · exact h y (by simp) g
    · exact prod_ndvd hq l (fun z hz => h z (by simp [hz])) g
theorem rs_sign {x q : Nat} (hq : q % 2 = 1) (k : Nat) : rs x q k % q = (q - 1) ^ sg x q k * tz x q k % q := by
  have h2 := rs_lt (x := x) hq k
  unfold sg tz
  generalize rs x q k = r at *
  split
  · rw [Nat.pow_one]
    obtain ⟨m, rfl⟩ : ∃ m, q = m + 1 := ⟨q - 1, by omega⟩
    obtain ⟨d, hd⟩ : ∃ d, m + 1 = r + d := ⟨m + 1 - r, by omega⟩
    rw [show m + 1 - 1 = m by omega, show m + 1 - r = d by omega]
    by_cases h0 : d = 0
    · omega
    have e : m * d = r + (d - 1) * (m + 1) := by
      obtain ⟨f, rfl⟩ : ∃ f, d = f + 1 := ⟨d - 1, by omega⟩
      have : m = r + f := by omega
      subst this
      rw [show f + 1 - 1 = f by omega]
      grind
    rw [e, Nat.add_mul_mod_self_right]
  · rw [Nat.pow_zero, Nat.one_mul]
/-- Gauss's lemma -/
theorem gauss {x q : Nat} (hp : Pr q) (hq : q % 2 = 1) (hg : Nat.gcd x q = 1) : x ^ (q / 2) % q = (q - 1) ^ cn x q % q := by
  have h1 := prod_map x q ((List.range (q / 2)).map (· + 1))
  rw [List.map_map, List.length_map, List.length_range] at h1
  have e1 : ((List.range (q / 2)).map ((fun y => x * y % q) ∘ (· + 1))) = (List.range (q / 2)).map (rs x q) := by
    apply List.map_congr_left
    intro k _
    show x * (k + 1) % q = (k + 1) * x % q
    rw [Nat.mul_comm]
  rw [e1, prod_signs (rs_sign hq), lsum_range, prod_perm (tz_perm hq hg)] at h1
  have h2 : ¬ q ∣ prod ((List.range (q / 2)).map (· + 1)) := prod_ndvd hp _ (fun y hy => by
    obtain ⟨k, hk, rfl⟩ := List.mem_map.1 hy
    have := List.mem_range.1 hk
    exact Pr.not_dvd_of_lt (by omega) (by omega))
  exact (hp.cancel h2 h1).symm
theorem neg_pow (c : Nat) : (p - 1) ^ c % p = if c % 2 = 0 then 1 else p - 1 := by
  have k3 : (p - 1) ^ 2 % p = 1 := by decide +kernel
  have k5 : 1 % p = 1 := by decide +kernel
  have k4 : (p - 1) % p = p - 1 := by decide +kernel
  have hm : ∀ m, (p - 1) ^ (2 * m) % p = 1 := fun m => by
    rw [Nat.pow_mul, Nat.pow_mod, k3, Nat.one_pow, k5]
  by_cases h : c % 2 = 0
  · rw [if_pos h, show c = 2 * (c / 2) by omega]
    exact hm _
  · rw [if_neg h, show c = 2 * (c / 2) + 1 by omega, Nat.pow_succ, Nat.mul_mod, hm, Nat.one_mul, Nat.mod_mod]
    exact k4
/-- Legendre's symbol is Jacobi's -/
theorem jac_p (x : Nat) : jac x p = leg x := by
  have ho : p % 2 = 1 := by decide +kernel
  by_cases h : x % p = 0
  · have hg : Nat.gcd x p = p := by
      rw [Nat.gcd_comm, Nat.gcd_rec, h, Nat.gcd_zero_left]
    unfold jac jv
    rw [hg, if_neg (by decide +kernel), (leg_zero_iff x).2 h]
  · have hg : Nat.gcd x p = 1 := by
      rw [Nat.gcd_comm]
      exact pr_p.coprime (fun hd => h (Nat.mod_eq_zero_of_dvd hd))
    have h1 : hp x = (p - 1) ^ cn x p % p := by
      rw [← gauss pr_p ho hg, hp_def]
      rw [show (p - 1) / 2 = p / 2 by decide +kernel]
    rw [neg_pow] at h1
    unfold jac jv leg
    rw [if_pos hg, h1]
    have k1 : p - 1 ≠ 0 := by decide +kernel
    have k2 : p - 1 ≠ 1 := by decide +kernel
    by_cases hc : cn x p % 2 = 0
    · rw [if_pos hc, if_pos hc, if_neg (by decide), if_pos rfl]
    · rw [if_neg hc, if_neg hc, if_neg k1, if_neg k2]

/-- what the walk by reciprocity keeps -/
structure YS (a x n : Nat) (s : Int) : Prop where
  no : n % 2 = 1
  np : n ≤ p
  xp : x ≤ p
  sg : s = 1 ∨ s = -1
  eq : s * jac x n = leg a
theorem YS.start (a : Nat) : YS a (a % p) p 1 := ⟨by decide +kernel, Nat.le_refl _, Nat.le_of_lt (Nat.mod_lt _ p_pos), .inl rfl, by rw [Int.one_mul, jac_mod, jac_p]⟩
theorem YS.half {a x n : Nat} {s : Int} (h : YS a x n s) (he : x % 2 = 0) : YS a (x / 2) n (if n % 8 = 3 ∨ n % 8 = 5 then -s else s) := by
  have e : x = 2 * (x / 2) := by omega
  have h1 := h.eq
  rw [e, jac_two h.no] at h1
  refine ⟨h.no, h.np, by have := h.xp; omega, ?_, ?_⟩
  · have := h.sg
    split <;> omega
  · rw [← h1]
    split
    · rw [← Int.mul_assoc, Int.mul_comm s (-1)]
      congr 1
      omega
    · rw [Int.one_mul]
theorem YS.swap {a x n : Nat} {s : Int} (h : YS a x n s) (hx : x % 2 = 1) : YS a n x (if n % 4 = 3 ∧ x % 4 = 3 then -s else s) := by
  have h1 := h.eq
  rw [jac_swap h.no hx] at h1
  refine ⟨hx, h.xp, h.np, ?_, ?_⟩
  · have := h.sg
    split <;> omega
  · rw [← h1]
    by_cases c : n % 4 = 3 ∧ x % 4 = 3
    · rw [if_pos c, if_pos ⟨c.2, c.1⟩, ← Int.mul_assoc, Int.mul_comm s (-1)]
      congr 1
      omega
    · rw [if_neg c, if_neg (fun d => c ⟨d.2, d.1⟩), Int.one_mul]
theorem YS.less {a x n : Nat} {s : Int} (h : YS a x n s) (hle : n ≤ x) : YS a (x - n) n s :=
  ⟨h.no, h.np, by have := h.xp; omega, h.sg, by rw [jac_sub hle]; exact h.eq⟩
theorem YS.done {a n : Nat} {s : Int} (h : YS a 0 n s) : leg a = if n = 1 then s else 0 := by
  rw [← h.eq, jac_zero]
  split
  · rw [Int.mul_one]
  · rw [Int.mul_zero]
end FieldNum
