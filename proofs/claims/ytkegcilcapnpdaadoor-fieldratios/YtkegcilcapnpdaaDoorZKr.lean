import Derived.Test.YtkegcilcapnpdaaDoorMa
namespace FieldNum

theorem rt_root2 {u v : Nat} (h : rok u v) : RootOf u v (rt u v) := by
  have key : ∃ z, v * (z * z) % p = u % p ∧ (u % p = 0 → z % p = 0) := by
    have hs := root_sq (u := u) (v := v) (w := u * v ^ 7) (r := u * v ^ 3 * rp (u * v ^ 7)) (s := v * ((u * v ^ 3 * rp (u * v ^ 7)) * (u * v ^ 3 * rp (u * v ^ 7)))) rfl rfl rfl
    have h0 : u % p = 0 → u * v ^ 3 * rp (u * v ^ 7) % p = 0 := by
      intro hu
      rw [Nat.mul_assoc, Nat.mul_mod, hu]; simp
    generalize u * v ^ 3 * rp (u * v ^ 7) = r at *
    rcases root_found h hs with e | e
    · exact ⟨r, e, h0⟩
    · exact ⟨r * Im, root_turn e rfl, fun hu => by rw [Nat.mul_mod, h0 hu]; simp⟩
  obtain ⟨z, h1, h2⟩ := key
  by_cases ho : z % p % 2 = 1
  · have := root_odd h1 h2 ho
    rw [rt_eq this]; exact this
  · have := root_even h1 h2 ho
    rw [rt_eq this]; exact this
theorem rok_no {u v : Nat} (hu : u % p ≠ 0) (hv : v % p = 0) : ¬ rok u v := by
  rintro (h | h)
  · exact hu h
  · exact absurd (hp_one_ne h) (by rw [Nat.mul_mod, hv]; simp)
theorem rt_null {u v : Nat} (h : u % p = 0) : rt u v = 0 := (rt_root2 (.inl h)).2.2.2 h
/-- the quotient's symbol -/
theorem hp_quot {u v : Nat} (hv : v % p ≠ 0) : hp (u * inv v % p) = hp (u * v) := by
  have h1 : u * v % p = (u * inv v % p) * (v * v) % p := by
    rw [Nat.mod_mul_mod, show u * inv v * (v * v) = u * v * (v * inv v) by grind, Nat.mul_mod (u * v), mul_inv hv, Nat.mul_one, Nat.mod_mod]
  have e : hp (u * v) = hp ((u * inv v % p) * (v * v)) := by rw [← hp_mod (u * v), h1, hp_mod]
  rw [e]
  generalize u * inv v % p = q
  rw [hp_mul', hp_sq1 hv, Nat.mul_one]
  exact (Nat.mod_eq_of_lt (hp_lt' _)).symm
theorem leg_quot {u v : Nat} (hu : u % p ≠ 0) (hv : v % p ≠ 0) : leg (u * inv v % p) = 1 ↔ rok u v := by
  unfold leg
  rw [hp_quot hv]
  have k1 : p - 1 ≠ 1 := by decide +kernel
  have k0 : p - 1 ≠ 0 := by decide +kernel
  unfold rok
  rcases hp_cases (u * v) with ⟨_, h⟩ | ⟨_, h | h⟩ <;> simp [h, hu, k1, k0]
def Er : Nat := 7237005577332262213973186563042994240829374041602535252466099000494570602494
def Fr2 : Nat := 14474011154664524427946373126085988481658748083205070504932198000989141204987
theorem Er_two : Er + Er = 1 + (p - 1) / 4 := by decide +kernel
theorem Fr_eq : Fr2 = (p - 1) / 4 := by decide +kernel
/-- the power and its square -/
theorem er_sq (a : Nat) {e : Nat} (he : e = Er) : (a ^ e % p) * (a ^ e % p) % p = a * fq a % p := by
  subst he
  unfold fq
  rw [← Nat.mul_mod, ← Nat.pow_add, Er_two, Nat.pow_add, Nat.pow_one, Nat.mul_mod_mod]
theorem fq_pm {a : Nat} (h : hp a = 1) : fq a = 1 ∨ fq a = p - 1 := sq_one (fq_lt a) (by rw [fq_sq, h])
theorem sq_pow4 (c : Nat) {f : Nat} (hf : f = (p - 1) / 4) : (c ^ f % p) * (c ^ f % p) % p = hp c := by
  subst hf
  exact fq_sq c
theorem er_turn {a : Nat} (ha : a < p) (h : hp a = 1) {e f : Nat} (he : e = Er) (hf : f = Fr2) (hs : ¬ (a ^ e % p) * (a ^ e % p) % p = a) :
    ((a ^ e % p) * (2 ^ f % p) % p) * ((a ^ e % p) * (2 ^ f % p) % p) % p = a := by
  rw [er_sq a he] at hs
  have h2 : fq a = p - 1 := by
    rcases fq_pm h with g | g
    · exact absurd (by rw [g, Nat.mul_one, Nat.mod_eq_of_lt ha]) hs
    · exact g
  have hi : (2 ^ f % p) * (2 ^ f % p) % p = p - 1 := by
    exact (sq_pow4 2 (hf.trans Fr_eq)).trans hp_two
  have e1 := er_sq a he
  generalize a ^ e % p = r at *
  generalize 2 ^ f % p = i at *
  rw [← Nat.mul_mod, show r * i * (r * i) = (r * r) * (i * i) by grind, Nat.mul_mod, e1, hi, h2, mul_p1, mul_p1, ng_ng, Nat.mod_eq_of_lt ha]
theorem root_of_sq {q r : Nat} (hr : r < p) (hs : r * r % p = q) (hq : q ≠ 0) : RootOf q 1 (if r % 2 = 1 then ng r else r) := by
  have h1 : 1 * (r * r) % p = q % p := by rw [Nat.one_mul, hs]; exact (Nat.mod_eq_of_lt (hs ▸ Nat.mod_lt _ p_pos)).symm
  have h0 : q % p = 0 → r % p = 0 := fun h => absurd ((Nat.mod_eq_of_lt (hs ▸ Nat.mod_lt _ p_pos)).symm.trans h) hq
  have hm : r % p = r := Nat.mod_eq_of_lt hr
  by_cases ho : r % 2 = 1
  · rw [if_pos ho]
    exact root_odd h1 h0 (by rw [hm]; exact ho)
  · rw [if_neg ho]
    have := root_even h1 h0 (by rw [hm]; exact ho)
    rwa [hm] at this
/-- a root of the quotient is a root of the ratio -/
theorem root_ratio {u v r : Nat} (hu : u % p ≠ 0) (hv : v % p ≠ 0) (h : RootOf (u * inv v % p) 1 r) : RootOf u v r := by
  refine ⟨h.1, h.2.1, ?_, fun h0 => absurd h0 hu⟩
  have h1 := h.2.2.1
  rw [Nat.one_mul, Nat.mod_mod] at h1
  rw [Nat.mul_mod, h1, ← Nat.mul_mod, show v * (u * inv v) = u * (v * inv v) by grind, Nat.mul_mod, mul_inv hv, Nat.mul_one, Nat.mod_mod]
end FieldNum
