import Derived.Test.YtoonlnncboikfaaCanon
namespace Go.Proofs.Ytoonlnncboikfaa
open Go.RowKit Go.Shelf FieldNum

theorem p_lit : p = 57896044618658097711785492504343953926634992332820282019728792003956564819949 := rfl
theorem M_lit : M = 115792089237316195423570985008687907853269984665640564039457584007913129639936 := rfl

theorem psum_small {r q : Nat} (h : r + q < M) : psum r q = r + q := Nat.mod_eq_of_lt h

theorem mod_succ_ne (a : Nat) : ¬ a % p = (a + 1) % p % p := by
  intro h
  rw [Nat.mod_mod] at h
  have e := dvd_of_mod_eq h.symm
  rw [Nat.add_sub_cancel_left] at e
  have := Nat.dvd_one.1 e
  exact absurd this (by decide +kernel)

theorem canon_facts (a u pp : Nat) (hu : u = 1) (hpp : pp = p) : Facts a u pp := by
  have hr : fred a < p := Nat.mod_lt _ p_pos
  have hs : psum (fred a) pp = fred a + p := by
    rw [hpp]
    apply psum_small
    have h1 := p_lit
    have h2 := M_lit
    omega
  refine ⟨decide_eq_true hr, decide_eq_true (by rw [hpp]; exact hr), decide_eq_true ?_, decide_eq_true ?_, decide_eq_false ?_, ?_⟩
  · unfold fred; rw [Nat.mod_mod]
  · rw [hs, Nat.add_mod_right]
  · rw [hu]; exact mod_succ_ne a
  · rw [hs]; unfold fred; rw [Nat.add_mod_right, Nat.mod_mod]

theorem canon_all (a : Nat) (ha : a < M) (w : World) : Calls Try.prog 4 #[bv a] w fun e w' => e = .returned (.bool true) ∧ Grown w w' := by
  obtain ⟨pp, hpp⟩ : ∃ q : Nat, q = p := ⟨p, rfl⟩
  obtain ⟨u, hu⟩ : ∃ u : Nat, u = 1 := ⟨1, rfl⟩
  obtain ⟨c0, hc⟩ : ∃ c : Nat, c = fred a / 256 ^ 0 % 256 := ⟨_, rfl⟩
  have hppM : pp < M := by rw [hpp]; exact p_lt_M
  have huM : u < M := by rw [hu]; decide
  have hc0 : c0 < 256 := by rw [hc]; exact Nat.mod_lt _ (by decide)
  have hcell : ∀ (wr : World) {b : Nat}, wr.rangeAt b 0 (bl (fred a)) → wr.cell? ⟨b, 0, none⟩ = some (.int .u8 (c0 : Int)) := by
    intro wr b h
    have := h 0 _ (bl_get (fred a) 0 (by decide))
    rw [← hc] at this
    exact this
  have hpar : c0 % 2 = a % p % 2 := by
    rw [hc, Nat.pow_zero, Nat.div_one]
    show a % p % 256 % 2 = _
    omega
  have hod : decide (c0 % 2 = 1) = decide (a % p % 2 = 1) := by rw [hpar]
  have F := canon_facts a u pp hu hpp
  have hr : fred a < p := Nat.mod_lt _ p_pos
  have h1 := p_lit
  have h2 := M_lit
  have hs : psum (fred a) pp = fred a + p := by
    rw [hpp]; apply psum_small; omega
  have hdm : fred a = a % p := rfl
  have hdiv := Nat.mod_add_div a p
  by_cases hA : a < p
  · exact canon_walkA a u c0 pp (decide (a % p % 2 = 1)) ha hpp hppM hu huM hc0 hcell hod rfl F (decide_eq_true hA) (decide_eq_true (by rw [hpp]; exact hA)) (Nat.mod_eq_of_lt hA).symm w
  · have hne : ¬ a = fred a := by omega
    by_cases hB : a < p + p
    · have ea : a = fred a + p := by
        have : a % p = a - p := by
          rw [Nat.mod_eq_sub_mod (by omega), Nat.mod_eq_of_lt (by omega)]
        omega
      exact canon_walkB a u c0 pp (decide (a % p % 2 = 1)) ha hpp hppM hu huM hc0 hcell hod rfl F (decide_eq_false hA) (decide_eq_false (by rw [hpp]; exact hA)) hne (show a = psum (fred a) pp by rw [hs]; exact ea) w
    · have ea : a = fred a + p + p := by
        have : a % p = a - p - p := by
          rw [Nat.mod_eq_sub_mod (by omega), Nat.mod_eq_sub_mod (by omega), Nat.mod_eq_of_lt (by omega)]
        omega
      have hs2 : psum (psum (fred a) pp) pp = fred a + p + p := by
        rw [hs, hpp]; apply psum_small; omega
      exact canon_walkC a u c0 pp (decide (a % p % 2 = 1)) ha hpp hppM hu huM hc0 hcell hod rfl F (decide_eq_false hA) (decide_eq_false (by rw [hpp]; exact hA)) hne (show ¬ a = psum (fred a) pp by rw [hs]; omega) (show a = psum (psum (fred a) pp) pp by rw [hs2]; exact ea) w
end Go.Proofs.Ytoonlnncboikfaa
