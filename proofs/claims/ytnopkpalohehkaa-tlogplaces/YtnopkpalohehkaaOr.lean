import Derived.Test.YtnopkpalohehkaaWb
namespace Tlg
theorem plc_01 : idx 0 1 = (1, 0) := by
  have h : idx ((0 : Nat) : Int) ((1 : Nat) : Int) = ((plc 0 1 : Int), 0) := idx_yes (by decide) (by decide)
  have h2 : plc 0 1 = 1 := by rw [plc_zero, lay_step, show (1 / 2 : Nat) = 0 by decide, lay_zero]
  rw [h2] at h; exact h
theorem idx_no {L N : Int} (h : ¬ (0 ≤ L ∧ L ≤ 48 ∧ 0 ≤ N ∧ (N + 1) * 2 ^ L.toNat ≤ 281474976710656)) : idx L N = (0, 1) := by unfold idx; rw [if_neg h]
theorem idx_cases (L N : Int) : (∃ l n : Nat, L = (l : Int) ∧ N = (n : Int) ∧ l ≤ 48 ∧ (n + 1) * 2 ^ l ≤ 281474976710656) ∨
    (idx L N = (0, 1) ∧ (L < 0 ∨ 48 < L ∨ (0 ≤ L ∧ L ≤ 48 ∧ N < 0) ∨ ∃ l n : Nat, L = (l : Int) ∧ N = (n : Int) ∧ l ≤ 48 ∧ 281474976710656 / 2 ^ l ≤ n)) := by
  by_cases c1 : L < 0
  · exact .inr ⟨idx_no (by omega), .inl c1⟩
  by_cases c2 : (48 : Int) < L
  · exact .inr ⟨idx_no (by omega), .inr (.inl c2)⟩
  by_cases c3 : N < 0
  · exact .inr ⟨idx_no (by omega), .inr (.inr (.inl ⟨by omega, by omega, c3⟩))⟩
  obtain ⟨l, rfl⟩ : ∃ l : Nat, L = (l : Int) := ⟨L.toNat, by omega⟩
  obtain ⟨n, rfl⟩ : ∃ m : Nat, N = (m : Int) := ⟨N.toNat, by omega⟩
  have hi : n < 281474976710656 / 2 ^ l ↔ (n + 1) * 2 ^ l ≤ 281474976710656 := Nat.le_div_iff_mul_le (Nat.pow_pos (by decide))
  by_cases c4 : (n + 1) * 2 ^ l ≤ 281474976710656
  · exact .inl ⟨l, n, rfl, rfl, by omega, c4⟩
  · refine .inr ⟨idx_no ?_, .inr (.inr (.inr ⟨l, n, rfl, rfl, by omega, ?_⟩))⟩
    · intro h
      have h2 := h.2.2.2
      rw [Int.toNat_natCast] at h2
      refine c4 (Int.ofNat_le.1 ?_)
      rw [Int.natCast_mul, Int.natCast_add, Int.natCast_pow]
      exact h2
    · rw [← hi] at c4
      exact Nat.le_of_not_lt c4
end Tlg
namespace Go.Proofs.Ytnopkpalohehkaa
open Go.RowKit Tlg

set_option maxRecDepth 100000 in
set_option maxHeartbeats 1000000 in
theorem order_walk (L n : Int) (b0 : -9223372036854775808 ≤ L) (b1 : L ≤ 9223372036854775807) (h0 : -9223372036854775808 ≤ n) (h1 : n ≤ 9223372036854775807) (w : World) :
    Calls Try.prog 3 #[.int .i64 L, .int .i64 n] w fun e w' => e = .returned (.bool true) ∧ Up w w' := by
  have H01 := Hid.of plc_01
  go_enter Try.func3, Try.ntmps3
  go_wp2_with fail
  refine Calls.mono (Index_walk 0 1 (by omega) (by omega) (by omega) (by omega) w) ?_
  rintro e w' ⟨rfl, rfl⟩
  rw [H01.out]
  dsimp only
  rcases idx_cases L n with ⟨l, m, rfl, rfl, hl, hf⟩ | ⟨hx, hc⟩
  · have HX := Hid.of (idx_yes hl hf)
    obtain ⟨hp1, _, _⟩ := plc_lt (l := l) (n := m) hf
    obtain ⟨_, hr1, hr2⟩ := of_plc (l := l) (n := m) hf
    have HS := Hid.of (spl_yes (c := plc l m) hp1)
    rw [hr1, hr2] at HS
    have hp1' : plc l m < 562949953421311 := hp1
    have hm1 : m + 1 ≤ 281474976710656 := Nat.le_trans (Nat.le_mul_of_pos_right _ (Nat.pow_pos (by decide))) hf
    have hq : (281474976710656 : Int) / 2 ^ l = ((281474976710656 / 2 ^ l : Nat) : Int) := by simp
    have hqb : 281474976710656 / 2 ^ l ≤ 281474976710656 := Nat.div_le_self _ _
    have hqm : m < 281474976710656 / 2 ^ l := (Nat.le_div_iff_mul_le (Nat.pow_pos (by decide))).2 hf
    have d1 : decide ((0 : Int) ≤ (l : Int)) = true := by simp
    have d2 : decide ((l : Int) ≤ (48 : Int)) = true := by simp; omega
    have d3 : decide ((0 : Int) ≤ (m : Int)) = true := by simp
    clear hr1 hr2 hp1
    rcases Nat.eq_zero_or_pos l with rfl | hl0
    · have HP : Hid (plc 0 m = lay m) := plc_zero m
      have HC1 := Hid.of (cnt_yes (n := m) (by omega))
      have HC2 := Hid.of (cnt_yes (n := m + 1) hm1)
      have HL := Hid.of (lay_succ m)
      have HB := Hid.of (lay_bound (n := m + 1) hm1).1
      clear hf hq hqb hqm
      have d4 : (m : Int) < 281474976710656 := by omega
      go_wp2_with fail
      refine Calls.mono (Index_walk 0 m (by omega) (by omega) h0 h1 w') ?_
      rintro e w2 ⟨rfl, rfl⟩
      rw [show idx 0 (m : Int) = ((plc 0 m : Int), 0) from HX.out]
      dsimp only
      go_wp2_with fail
      refine Calls.mono (Split_walk (plc 0 m : Int) (by omega) (by omega) w2) ?_
      rintro e w3 ⟨rfl, u3⟩
      rw [show spl (plc 0 m : Int) = (0, (m : Int), 0) from HS.out]
      dsimp only
      go_wp2_with fail
      refine Calls.mono (Count_walk (m : Int) (by omega) (by omega) w3) ?_
      rintro e w4 ⟨rfl, rfl⟩
      rw [HC1.out]
      dsimp only
      go_wp2_with fail
      refine Calls.mono (Count_walk ((m : Int) + 1) (by omega) (by omega) w4) ?_
      rintro e w5 ⟨rfl, rfl⟩
      rw [show cnt ((m : Int) + 1) = ((lay (m + 1) : Int), 0) from HC2.out]
      dsimp only
      rw [HP.out] at hp1' ⊢
      go_wp2
      go_loop [19, 20] (fun v19 v20 => ∃ j x : Nat, v19 = .int .i64 ((j : Int) + 1) ∧ v20 = .int .i64 (x : Int) ∧ 0 < x ∧ x ≤ 281474976710656 ∧ Hid (j + tz x = tz (m + 1)) ∧ j + x ≤ 281474976710657) (fun _ v20 => (intOf v20).toNat)
      case atStart => exact ⟨0, m + 1, rfl, rfl, by omega, by omega, Hid.of (by omega), by omega⟩
      case round =>
        obtain ⟨j, x, rfl, rfl, hx0, hx1, hI, hj⟩ := hrel
        by_cases hx : x % 2 = 0
        · have e1 : (x : Int).tmod 2 = 0 := by rw [Int.tmod_eq_emod_of_nonneg (by omega)]; omega
          have HN : Hid (j + 1 + tz (x / 2) = tz (m + 1)) := by
            rw [← hI.out]
            have := tz_even (x / 2) (by omega)
            rw [show 2 * (x / 2) = x by omega] at this
            show j + 1 + tz (x / 2) = j + tz x
            omega
          clear hI
          go_wp2
          go_round
          case rel => exact ⟨j + 1, x / 2, by go_num, by go_num, by omega, by omega, HN, by omega⟩
          case measure => simp [intOf]; omega
        · have e1 : (x : Int).tmod 2 = 1 := by rw [Int.tmod_eq_emod_of_nonneg (by omega)]; omega
          have e2 : ((lay (m + 1) : Nat) : Int) = (lay m : Int) + ((j : Int) + 1) := by
            have := hI.out
            have h2 := tz_odd (x / 2)
            rw [show 2 * (x / 2) + 1 = x by omega] at h2
            have := HL.out
            omega
          have hb := HB.out
          clear hI HL
          go_wp2
          go_ret
          exact ⟨rfl, u3⟩
    · have HU : Hid (plc l m = plc (l - 1) (2 * m + 1) + 1) := by
        obtain ⟨k, rfl⟩ : ∃ k, l = k + 1 := ⟨l - 1, by omega⟩
        rw [Nat.add_sub_cancel]; exact plc_up
      have HX2 : Hid (idx ((l : Int) - 1) (2 * (m : Int) + 1) = ((plc (l - 1) (2 * m + 1) : Int), 0)) := by
        rw [show (l : Int) - 1 = ((l - 1 : Nat) : Int) by omega, show (2 : Int) * (m : Int) + 1 = ((2 * m + 1 : Nat) : Int) by omega]
        refine idx_yes (by omega) ?_
        obtain ⟨k, rfl⟩ : ∃ k, l = k + 1 := ⟨l - 1, by omega⟩
        rw [Nat.add_sub_cancel, show (2 * m + 1 + 1) * 2 ^ k = (m + 1) * 2 ^ (k + 1) by rw [Nat.pow_succ, show 2 * m + 1 + 1 = (m + 1) * 2 by omega, Nat.mul_assoc, Nat.mul_comm 2 (2 ^ k)]]; exact hf
      clear hf
      generalize 281474976710656 / 2 ^ l = q at hq hqb hqm
      have d4 : decide (m < q) = true := by simp; omega
      have d5 : (0 : Int) < (l : Int) := by omega
      go_wp2_with fail
      refine Calls.mono (Index_walk l m b0 b1 h0 h1 w') ?_
      rintro e w2 ⟨rfl, rfl⟩
      rw [HX.out]
      dsimp only
      go_wp2_with fail
      refine Calls.mono (Split_walk (plc l m : Int) (by omega) (by omega) w2) ?_
      rintro e w3 ⟨rfl, u3⟩
      rw [HS.out]
      dsimp only
      go_wp2_with fail
      refine Calls.mono (Index_walk ((l : Int) - 1) (2 * (m : Int) + 1) (by omega) (by omega) (by omega) (by omega) w3) ?_
      rintro e w4 ⟨rfl, rfl⟩
      rw [HX2.out]
      dsimp only
      have hU := HU.out
      go_wp2
      go_ret
      exact ⟨rfl, u3⟩
  · have HX := Hid.of hx
    clear hx
    go_wp2_with fail
    refine Calls.mono (Index_walk L n b0 b1 h0 h1 w') ?_
    rintro e w2 ⟨rfl, rfl⟩
    rw [HX.out]
    dsimp only
    rcases hc with c | c | ⟨c0, c1, c⟩ | ⟨l, m, rfl, rfl, hl, hc⟩
    · have d1 : decide ((0 : Int) ≤ L) = false := by simp; omega
      go_wp2
      go_ret
      exact ⟨rfl, Up.refl _⟩
    · have d1 : decide ((0 : Int) ≤ L) = true := by simp; omega
      have d2 : decide (L ≤ (48 : Int)) = false := by simp; omega
      go_wp2
      go_ret
      exact ⟨rfl, Up.refl _⟩
    · have d1 : decide ((0 : Int) ≤ L) = true := by simp; omega
      have d2 : decide (L ≤ (48 : Int)) = true := by simp; omega
      have d3 : decide ((0 : Int) ≤ n) = false := by simp; omega
      go_wp2
      go_ret
      exact ⟨rfl, Up.refl _⟩
    · have hq : (281474976710656 : Int) / 2 ^ l = ((281474976710656 / 2 ^ l : Nat) : Int) := by simp
      have hqb : 281474976710656 / 2 ^ l ≤ 281474976710656 := Nat.div_le_self _ _
      have d1 : decide ((0 : Int) ≤ (l : Int)) = true := by simp
      have d2 : decide ((l : Int) ≤ (48 : Int)) = true := by simp; omega
      have d3 : decide ((0 : Int) ≤ (m : Int)) = true := by simp
      rcases Nat.eq_zero_or_pos l with rfl | hl0
      · have d4 : decide ((m : Int) < (281474976710656 : Int)) = false := by simp; simp at hc; omega
        clear hq hc hqb
        go_wp2
        go_ret
        exact ⟨rfl, Up.refl _⟩
      · generalize 281474976710656 / 2 ^ l = q at hq hqb hc
        have d4 : decide (m < q) = false := by simp; omega
        have d5 : (0 : Int) < (l : Int) := by omega
        go_wp2
        go_ret
        exact ⟨rfl, Up.refl _⟩
end Go.Proofs.Ytnopkpalohehkaa
