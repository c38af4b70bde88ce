namespace ScalarNum

/-- the digit of width w that N ends with -/
def nd (w N : Nat) : Int := if N % 2 = 0 then 0 else if N % 2 ^ w < 2 ^ (w - 1) then ((N % 2 ^ w : Nat) : Int) else ((N % 2 ^ w : Nat) : Int) - ((2 ^ w : Nat) : Int)
/-- what is left of it -/
def nq (w N : Nat) : Nat := if N % 2 = 0 then N else if N % 2 ^ w < 2 ^ (w - 1) then N - N % 2 ^ w else N - N % 2 ^ w + 2 ^ w
/-- the numbers -/
def nn (w X : Nat) : Nat → Nat
  | 0 => X
  | i + 1 => nq w (nn w X i) / 2
def dn (w X i : Nat) : Int := nd w (nn w X i)

theorem nq_eq (w N : Nat) : ((nq w N : Nat) : Int) = (N : Int) - nd w N := by
  unfold nq nd
  have h := Nat.mod_le N (2 ^ w)
  generalize 2 ^ w = P at *
  generalize 2 ^ (w - 1) = H at *
  generalize N % P = e at *
  split
  · omega
  · split <;> omega
theorem nq_even {w N : Nat} (hw : 1 ≤ w) : nq w N % 2 = 0 := by
  have hp : ∃ k, 2 ^ w = 2 * k := ⟨2 ^ (w - 1), by rw [← Nat.pow_succ']; congr 1; omega⟩
  obtain ⟨k, hk⟩ := hp
  have h1 := Nat.div_add_mod N (2 ^ w)
  unfold nq
  rw [hk] at h1 ⊢
  generalize 2 ^ (w - 1) = H
  have h2 : N - N % (2 * k) = 2 * (k * (N / (2 * k))) := by
    rw [← Nat.mul_assoc]
    generalize 2 * k * (N / (2 * k)) = q at *
    omega
  split
  · assumption
  · split
    · rw [h2]; exact Nat.mul_mod_right _ _
    · rw [h2]; omega
theorem nn_step (w X i : Nat) (hw : 1 ≤ w) : ((nn w X i : Nat) : Int) = dn w X i + 2 * ((nn w X (i + 1) : Nat) : Int) := by
  have h1 := nq_eq w (nn w X i)
  have h2 := nq_even (N := nn w X i) hw
  simp only [nn]
  unfold dn
  omega
/-- bounds of a digit -/
theorem nd_bounds {w N : Nat} (hw : 1 ≤ w) : -((2 ^ (w - 1) : Nat) : Int) ≤ nd w N ∧ nd w N ≤ ((2 ^ (w - 1) : Nat) : Int) ∧ (nd w N ≠ 0 → N % 2 = 1 ∧ nd w N % 2 = 1) := by
  have hp : 2 ^ w = 2 * 2 ^ (w - 1) := by rw [← Nat.pow_succ']; congr 1; omega
  have h1 := Nat.mod_lt N (show 0 < 2 ^ w from Nat.pow_pos (by decide))
  have h2 : N % 2 ^ w % 2 = N % 2 := by rw [hp, Nat.mod_mul_right_mod]
  unfold nd
  rw [hp] at h1 h2 ⊢
  generalize 2 ^ (w - 1) = H at *
  generalize N % (2 * H) = e at *
  split
  · exact ⟨by omega, by omega, fun h => absurd rfl h⟩
  · split
    · exact ⟨by omega, by omega, fun _ => by omega⟩
    · exact ⟨by omega, by omega, fun _ => by omega⟩

/-- the numbers grow less -/
theorem nq_le {w N k : Nat} (hw : 2 ≤ w) (h : N ≤ 2 ^ k) : nq w N ≤ 2 ^ k := by
  have hP : 0 < 2 ^ w := Nat.pow_pos (by decide)
  have h1 := Nat.div_add_mod N (2 ^ w)
  have h2 := Nat.mod_lt N hP
  unfold nq
  split
  · exact h
  · rename_i hodd
    split
    · omega
    · rename_i hge
      by_cases hk : w ≤ k
      · obtain ⟨d, rfl⟩ : ∃ d, k = w + d := ⟨k - w, by omega⟩
        rw [Nat.pow_add] at h ⊢
        have h3 : N / 2 ^ w < 2 ^ d := by
          rcases Nat.lt_or_ge (N / 2 ^ w) (2 ^ d) with h4 | h4
          · exact h4
          · exfalso
            have h5 : 2 ^ w * 2 ^ d ≤ 2 ^ w * (N / 2 ^ w) := Nat.mul_le_mul_left _ h4
            have h6 : N = 2 ^ w * 2 ^ d := by omega
            rw [h6, show w = w - 1 + 1 by omega, Nat.pow_succ, Nat.mul_comm (2 ^ (w - 1)) 2, Nat.mul_assoc, Nat.mul_mod_right] at hodd
            exact hodd rfl
        have h5 : 2 ^ w * (N / 2 ^ w + 1) ≤ 2 ^ w * 2 ^ d := Nat.mul_le_mul_left _ h3
        rw [Nat.mul_add, Nat.mul_one] at h5
        omega
      · exfalso
        have h3 : 2 ^ k ≤ 2 ^ (w - 1) := Nat.pow_le_pow_right (by decide) (by omega)
        have h4 : 2 ^ (w - 1) < 2 ^ w := Nat.pow_lt_pow_right (by decide) (by omega)
        rw [Nat.mod_eq_of_lt (by omega)] at hge
        have h5 : N = 2 ^ (w - 1) := by omega
        rw [h5, show w - 1 = w - 2 + 1 by omega, Nat.pow_succ, Nat.mul_mod_left] at hodd
        exact hodd rfl
theorem nn_le {w X : Nat} (hw : 2 ≤ w) (hX : X < 2 ^ 256) : ∀ i, i ≤ 256 → nn w X i ≤ 2 ^ (256 - i)
  | 0, _ => Nat.le_of_lt hX
  | i + 1, h => by
    have h1 := nq_le (k := 256 - i) hw (nn_le hw hX i (by omega))
    simp only [nn]
    rw [show 256 - i = 256 - (i + 1) + 1 by omega, Nat.pow_succ] at h1
    omega
theorem nn_end {w X : Nat} (hw : 2 ≤ w) (hX : X < 2 ^ 256) : nn w X 257 = 0 := by
  have h := nn_le hw hX 256 (Nat.le_refl _)
  show nq w (nn w X 256) / 2 = 0
  rw [Nat.sub_self, Nat.pow_zero] at h
  have h1 := nq_le (k := 0) hw (by rw [Nat.pow_zero]; exact h)
  rw [Nat.pow_zero] at h1
  omega
theorem nn_lt {w X i : Nat} (hw : 2 ≤ w) (hX : X < 2 ^ 256) (hi : i ≤ 257) : nn w X i < 2 ^ 256 := by
  rcases Nat.eq_zero_or_pos i with rfl | h0
  · exact hX
  · by_cases h : i ≤ 256
    · have := nn_le hw hX i h
      refine Nat.lt_of_le_of_lt this (Nat.pow_lt_pow_right (by decide) (by omega))
    · have : i = 257 := by omega
      subst this
      rw [nn_end hw hX]; decide
end ScalarNum
