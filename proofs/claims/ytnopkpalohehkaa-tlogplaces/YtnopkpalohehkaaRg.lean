import Derived.Test.YtnopkpalohehkaaRf
namespace Tlg
theorem nd_q {c r q : Nat} (h : c < 562949953421311) (hr : rr c = r) (hq : 2 ^ r = q) : (rn c + 1) / q = nd c + 1 := by
  have := (nd_fit h).2.2.2
  rwa [hr, hq] at this
end Tlg
namespace Go.Proofs.Ytnopkpalohehkaa
open Go.RowKit Tlg

set_option maxRecDepth 100000 in
theorem RCount_walk (n : Int) (h0 : -9223372036854775808 ≤ n) (h1 : n ≤ 9223372036854775807) (w : World) : Calls Try.prog 18 #[.int .i64 n] w fun e w' => e = .returned (a2 (cnt n)) ∧ w' = w := by
  go_enter Try.func18, Try.ntmps18
  by_cases hn : n < 0
  · have HF := Hid.of (show cnt n = (0, 1) by unfold cnt; rw [if_neg (by omega)])
    go_wp2
    go_ret2
    rw [HF.out]
    exact ⟨rfl, rfl⟩
  · by_cases hm : (281474976710656 : Int) < n
    · have HF := Hid.of (show cnt n = (0, 1) by unfold cnt; rw [if_neg (by omega)])
      have d1 : decide (n < 0) = false := by simp; omega
      go_wp2
      go_ret2
      rw [HF.out]
      exact ⟨rfl, rfl⟩
    · obtain ⟨m, rfl⟩ : ∃ m : Nat, n = (m : Int) := ⟨n.toNat, by omega⟩
      have d1 : decide ((m : Int) < 0) = false := by simp
      have d2 : decide ((281474976710656 : Int) < (m : Int)) = false := by simp; omega
      have HF := Hid.of (cnt_yes (n := m) (by omega))
      go_wp2_with fail
      refine Calls.mono (laid_walk m (by omega) w) ?_
      rintro e w' ⟨rfl, rfl⟩
      dsimp only
      go_wp2
      go_ret2
      rw [HF.out]
      exact ⟨rfl, rfl⟩

set_option maxRecDepth 100000 in
theorem RRecords_walk (n : Int) (h0 : -9223372036854775808 ≤ n) (h1 : n ≤ 9223372036854775807) (w : World) : Calls Try.prog 19 #[.int .i64 n] w fun e w' => e = .returned (a2 (rec' n)) ∧ w' = w := by
  go_enter Try.func19, Try.ntmps19
  by_cases hn : n < 0
  · have HF := Hid.of (show rec' n = (0, 80) by unfold rec'; rw [if_neg (by omega)])
    go_wp2
    go_ret2
    rw [HF.out]
    exact ⟨rfl, rfl⟩
  · by_cases hm : (562949953421311 : Int) < n
    · have HF := Hid.of (show rec' n = (0, 80) by unfold rec'; rw [if_neg (by omega)])
      have d1 : decide (n < 0) = false := by simp; omega
      go_wp2
      go_ret2
      rw [HF.out]
      exact ⟨rfl, rfl⟩
    · obtain ⟨m, rfl⟩ : ∃ m : Nat, n = (m : Int) := ⟨n.toNat, by omega⟩
      have d1 : decide ((m : Int) < 0) = false := by simp
      have d2 : decide ((562949953421311 : Int) < (m : Int)) = false := by simp; omega
      have hb : rn m ≤ 281474976710656 := rn_le (c := m) (show m ≤ 562949953421311 by omega)
      have HL := Hid.of (r_spec (show m ≤ 2 ^ 49 - 1 by omega)).1
      have HB := Hid.of (lay_bound hb).1
      have hmb : m ≤ 562949953421311 := by omega
      clear hn hm
      go_wp2_with fail
      refine Calls.mono (record_walk m hmb w) ?_
      rintro e w1 ⟨rfl, rfl⟩
      dsimp only
      go_wp2_with fail
      refine Calls.mono (laid_walk (rn m) hb w1) ?_
      rintro e w2 ⟨rfl, rfl⟩
      dsimp only
      by_cases hr : rr m = 0
      · have HF := Hid.of (And.intro (rec_yes hmb hr) trivial)
        have hx : lay (rn m) = m := by have := HL.out; omega
        rw [hx]
        clear hx hr HL HB
        generalize rn m = q at *
        go_wp2
        go_ret2
        rw [HF.out.1]
        exact ⟨rfl, rfl⟩
      · have HF := Hid.of (And.intro (rec_no hr) trivial)
        have hx : ((lay (rn m) : Int) == (m : Int)) = false := by have := HL.out; simp; omega
        clear hr HL
        have := HB.out
        generalize rn m = q at *
        go_wp2
        go_ret2
        rw [HF.out.1]
        exact ⟨rfl, rfl⟩

set_option maxRecDepth 100000 in
theorem RSplit_walk (n : Int) (h0 : -9223372036854775808 ≤ n) (h1 : n ≤ 9223372036854775807) (w : World) : Calls Try.prog 17 #[.int .i64 n] w fun e w' => e = .returned (a3 (spl n)) ∧ Up w w' := by
  go_enter Try.func17, Try.ntmps17
  by_cases hn : n < 0
  · have HF := Hid.of (show spl n = (0, 0, 1) by unfold spl; rw [if_neg (by omega)])
    go_wp2
    go_ret3
    rw [HF.out]
    exact ⟨rfl, Up.refl _⟩
  · by_cases hm : (562949953421311 : Int) ≤ n
    · have HF := Hid.of (show spl n = (0, 0, 1) by unfold spl; rw [if_neg (by omega)])
      have d1 : decide (n < 0) = false := by simp; omega
      go_wp2
      go_ret3
      rw [HF.out]
      exact ⟨rfl, Up.refl _⟩
    · obtain ⟨m, rfl⟩ : ∃ m : Nat, n = (m : Int) := ⟨n.toNat, by omega⟩
      have d1 : decide ((m : Int) < 0) = false := by simp
      have d2 : decide ((562949953421311 : Int) ≤ (m : Int)) = false := by simp; omega
      have hml : m < 562949953421311 := by omega
      obtain ⟨b1, b2, b3, b4⟩ := nd_fit hml
      have HF := Hid.of (And.intro (spl_yes hml) trivial)
      obtain ⟨p, hp⟩ : ∃ p, 2 ^ rr m = p := ⟨_, rfl⟩
      have hp0 : 1 ≤ p := by rw [← hp]; exact Nat.pow_pos (by decide)
      have hp1 : p ≤ 281474976710656 := by rw [← hp]; exact two48 b1
      have hs : ((rn m : Int) + 1) / (p : Int) = (nd m : Int) + 1 := by
        have : (((rn m + 1) / p : Nat) : Int) = ((nd m + 1 : Nat) : Int) := by rw [← hp, b4]
        simpa using this
      have b5 : nd m + 1 ≤ rn m + 1 := by rw [← b4]; exact Nat.div_le_self _ _
      have hL := (r_spec (show m ≤ 2 ^ 49 - 1 by omega)).1
      have hlx : (m : Int) - (lay (rn m) : Int) = (rr m : Int) := by omega
      have HP := fun w => Hid.of (power_walk (rr m) p b1 hp w)
      clear b3 b4 hn hm hL hp
      go_wp2_with fail
      refine Calls.mono (record_walk m (by omega) w) ?_
      rintro e w1 ⟨rfl, rfl⟩
      dsimp only
      go_wp2_with fail
      refine Calls.mono (laid_walk (rn m) (by omega) w1) ?_
      rintro e w2 ⟨rfl, rfl⟩
      dsimp only
      generalize lay (rn m) = y at *
      generalize rn m = q at *
      generalize rr m = r at *
      generalize nd m = d at *
      go_wp2_with fail
      go_quiet (exact Calls.quiet_of_same (HP _).out)
      go_wp2
      go_ret3
      rw [HF.out.1]
      exact ⟨rfl, (Up.refl _).drewN _⟩

set_option maxRecDepth 100000 in
theorem RIndex_walk (L n : Int) (b0 : -9223372036854775808 ≤ L) (b1 : L ≤ 9223372036854775807) (h0 : -9223372036854775808 ≤ n) (h1 : n ≤ 9223372036854775807) (w : World) : Calls Try.prog 16 #[.int .i64 L, .int .i64 n] w fun e w' => e = .returned (a2 (idx L n)) ∧ w' = w := by
  go_enter Try.func16, Try.ntmps16
  rcases idx_cases L n with ⟨l, m, rfl, rfl, hl, hf⟩ | ⟨hx, hc⟩
  · have HX := Hid.of (And.intro (idx_yes hl hf) trivial)
    obtain ⟨p, hp⟩ : ∃ p, 2 ^ l = p := ⟨_, rfl⟩
    have hp0 : 1 ≤ p := by rw [← hp]; exact Nat.pow_pos (by decide)
    have hp1 : p ≤ 281474976710656 := by rw [← hp]; exact two48 hl
    have hm1 : m + 1 ≤ 281474976710656 := Nat.le_trans (Nat.le_mul_of_pos_right _ (Nat.pow_pos (by decide))) hf
    have HPL : Hid (lay ((m + 1) * p - 1) + l = plc l m) := by unfold plc; rw [hp]; rfl
    have HP := fun w => Hid.of (power_walk l p hl hp w)
    rw [hp] at hf
    clear hp
    have hq : m + 1 ≤ 281474976710656 / p := (Nat.le_div_iff_mul_le (by omega)).2 hf
    have hqc : (281474976710656 : Int) / (p : Int) = ((281474976710656 / p : Nat) : Int) := by simp
    generalize 281474976710656 / p = q at hq hqc
    obtain ⟨z, hz⟩ : ∃ z, (m + 1) * p = z := ⟨_, rfl⟩
    have hzc : ((m : Int) + 1) * (p : Int) = (z : Int) := by rw [← hz]; simp
    have hz1 : p ≤ z := by rw [← hz]; exact Nat.le_mul_of_pos_left _ (by omega)
    rw [hz] at hf HPL
    clear hz
    have hzm : (z : Int) - 1 = ((z - 1 : Nat) : Int) := by omega
    have d1 : decide ((l : Int) < 0) = false := by simp
    have d2 : decide ((48 : Int) < (l : Int)) = false := by simp; omega
    have d3 : decide ((m : Int) < 0) = false := by simp
    have d4 : decide ((281474976710656 : Int) ≤ (m : Int)) = false := by simp; omega
    have hlb := (lay_bound (n := z - 1) (by omega)).1
    go_wp2_with fail
    refine Calls.mono (HP w).out ?_
    rintro e w1 ⟨rfl, rfl⟩
    dsimp only
    go_wp2_with fail
    refine Calls.mono (laid_walk (z - 1) (by omega) w1) ?_
    rintro e w2 ⟨rfl, rfl⟩
    dsimp only
    have hpl : (lay (z - 1) : Int) + (l : Int) = (plc l m : Int) := by have := HPL.out; omega
    clear hzm
    go_wp2
    go_ret2
    rw [HX.out.1]
    exact ⟨rfl, rfl⟩
  · have HX := Hid.of (And.intro hx trivial)
    clear hx
    rcases hc with c | c | ⟨c0, c1, c⟩ | ⟨l, m, rfl, rfl, hl, hc⟩
    · go_wp2
      go_ret2
      rw [HX.out.1]
      exact ⟨rfl, rfl⟩
    · have d1 : decide (L < 0) = false := by simp; omega
      go_wp2
      go_ret2
      rw [HX.out.1]
      exact ⟨rfl, rfl⟩
    · have d1 : decide (L < 0) = false := by simp; omega
      have d2 : decide ((48 : Int) < L) = false := by simp; omega
      go_wp2
      go_ret2
      rw [HX.out.1]
      exact ⟨rfl, rfl⟩
    · have d1 : decide ((l : Int) < 0) = false := by simp
      have d2 : decide ((48 : Int) < (l : Int)) = false := by simp; omega
      have d3 : decide ((m : Int) < 0) = false := by simp
      by_cases hbig : (281474976710656 : Int) ≤ (m : Int)
      · clear hc
        go_wp2
        go_ret2
        rw [HX.out.1]
        exact ⟨rfl, rfl⟩
      · have d4 : decide ((281474976710656 : Int) ≤ (m : Int)) = false := by simp; omega
        obtain ⟨p, hp⟩ : ∃ p, 2 ^ l = p := ⟨_, rfl⟩
        have hp0 : 1 ≤ p := by rw [← hp]; exact Nat.pow_pos (by decide)
        have hp1 : p ≤ 281474976710656 := by rw [← hp]; exact two48 hl
        have HP := fun w => Hid.of (power_walk l p hl hp w)
        rw [hp] at hc
        clear hp
        have hqc : (281474976710656 : Int) / (p : Int) = ((281474976710656 / p : Nat) : Int) := by simp
        generalize 281474976710656 / p = q at hc hqc
        have d5 : (q : Int) < (m : Int) + 1 := by omega
        go_wp2_with fail
        refine Calls.mono (HP w).out ?_
        rintro e w1 ⟨rfl, rfl⟩
        dsimp only
        go_wp2
        go_ret2
        rw [HX.out.1]
        exact ⟨rfl, rfl⟩
end Go.Proofs.Ytnopkpalohehkaa
