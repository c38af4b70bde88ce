import Derived.Test.YtpjfmkmgfjhnmaaOc
namespace Tlg
theorem lay_bound {n : Nat} (h : n ≤ 281474976710656) : lay n ≤ 562949953421311 ∧ pc n ≤ 2 * n := by
  have h1 := lay_pc n
  have h2 := lay_le (show n ≤ top from h)
  have h3 := lay_top
  simp only [show (2 : Nat) ^ 49 - 1 = 562949953421311 by decide] at h3
  omega
theorem two48 {l : Nat} (h : l ≤ 48) : 2 ^ l ≤ 281474976710656 := Nat.pow_le_pow_right (by decide) h
end Tlg
namespace Go.Proofs.Ytpjfmkmgfjhnmaa
open Go.RowKit Tlg

set_option maxRecDepth 100000 in
theorem countOf_walk (n : Nat) (hn : n ≤ 281474976710656) (w : World) : Calls Try.prog 25 #[.int .i64 (n : Int)] w fun e w' => e = .returned (.int .i64 (lay n : Int)) ∧ w' = w := by
  obtain ⟨hb, hp⟩ := lay_bound hn
  have hl : (2 : Int) * (n : Int) - (pc n : Int) = (lay n : Int) := by have := lay_pc n; omega
  go_enter Try.func25, Try.ntmps25
  go_wp2_with fail
  refine Calls.mono (Ones_walk n (by omega) w) ?_
  rintro e w' ⟨rfl, rfl⟩
  dsimp only
  go_wp2
  go_ret
  exact ⟨rfl, rfl⟩

set_option maxRecDepth 100000 in
theorem placeOf_walk (l n : Nat) (hl : l ≤ 48) (hn : (n + 1) * 2 ^ l ≤ 281474976710656) (w : World) : Calls Try.prog 24 #[.int .i64 (l : Int), .int .i64 (n : Int)] w fun e w' => e = .returned (.int .i64 (plc l n : Int)) ∧ w' = w := by
  have hp : 0 < (n + 1) * 2 ^ l := Nat.mul_pos (by omega) (Nat.pow_pos (by decide))
  have hn1 : n + 1 ≤ 281474976710656 := Nat.le_trans (Nat.le_mul_of_pos_right _ (Nat.pow_pos (by decide))) hn
  obtain ⟨m, hm⟩ : ∃ m, (n + 1) * 2 ^ l = m := ⟨_, rfl⟩
  have hs : ((n : Int) + 1) * 2 ^ l = (m : Int) := by rw [← hm]; simp
  have hq : (lay (m - 1) : Int) + (l : Int) = (plc l n : Int) := by unfold plc; rw [hm]; omega
  rw [hm] at hn hp
  have hq2 : (m : Int) - 1 = ((m - 1 : Nat) : Int) := by omega
  obtain ⟨hb, _⟩ := lay_bound (n := m - 1) (by omega)
  clear hm
  go_enter Try.func24, Try.ntmps24
  go_wp2_with fail
  refine Calls.mono (countOf_walk (m - 1) (by omega) w) ?_
  rintro e w' ⟨rfl, rfl⟩
  dsimp only
  go_wp2
  go_ret
  exact ⟨rfl, rfl⟩

set_option maxRecDepth 100000 in
theorem within_walk (c : Nat) (hc : c ≤ 562949953421311) (w : World) : Calls Try.prog 14 #[.int .i64 (c : Int)] w fun e w' => e = .returned (.tuple #[.int .i64 (rn c : Int), .int .i64 (rr c : Int)]) ∧ w' = w := by
  go_enter Try.func14, Try.ntmps14
  go_wp2
  go_loop [2, 3, 4] (fun v2 v3 v4 => ∃ k n r : Nat, v2 = .int .i64 (n : Int) ∧ v3 = .int .i64 (r : Int) ∧ v4 = .int .i64 ((k : Int) - 1) ∧ k ≤ 49 ∧ r ≤ 562949953421311 ∧ n + 2 ^ k ≤ 562949953421312 ∧ Hid (gr k n r = gr 49 0 c)) (fun _ _ v4 => (intOf v4 + 1).toNat)
  case atStart => exact ⟨49, 0, c, rfl, rfl, rfl, by omega, hc, by omega, rfl⟩
  case round =>
    obtain ⟨k, n, r, rfl, rfl, rfl, hk, hr, hn, hI⟩ := hrel
    cases k with
    | zero =>
      have HR : Hid (rn c = n ∧ rr c = r) := by
        have := hI.out
        unfold rn rr
        rw [← this]; exact ⟨rfl, rfl⟩
      go_wp2
      go_ret2
      rw [HR.out.1, HR.out.2]
      exact ⟨rfl, rfl⟩
    | succ k =>
      have e0 : ((k + 1 : Nat) : Int) - 1 = (k : Int) := by omega
      have e1 : (0 : Int) ≤ (k : Int) := by omega
      rw [e0]
      clear e0
      have hp48 := two48 (l := k) (by omega)
      have e2 : 2 ^ (k + 1) = 2 * 2 ^ k := by rw [Nat.pow_succ]; omega
      have hp0 : 0 < 2 ^ k := Nat.pow_pos (by decide)
      have HY := fun h => Hid.of (gr_yes (k := k) (n := n) (r := r) h)
      have HO := fun h => Hid.of (gr_no (k := k) (n := n) (r := r) h)
      have hs : (2 : Int) ^ k = ((2 ^ k : Nat) : Int) := by simp
      have HI2 := hI
      rw [e2] at hn HY HO
      clear e2 hI
      obtain ⟨p, hp⟩ : ∃ p, 2 ^ k = p := ⟨_, rfl⟩
      rw [hp] at hp48 hp0 hn HY HO hs
      have HP := Hid.of hp
      clear hp
      by_cases hd : 2 * p - 1 ≤ r
      · have hd' : (2 : Int) * (p : Int) - 1 ≤ (r : Int) := by omega
        have HN : Hid (gr k (n + p) (r - (2 * p - 1)) = gr 49 0 c) := by rw [← HI2.out, (HY hd).out]; rfl
        clear HY HO HI2
        go_wp2
        go_round
        case rel => exact ⟨k, n + p, r - (2 * p - 1), by go_num, by go_num, rfl, by omega, by omega, by rw [HP.out]; omega, HN⟩
        case measure => simp [intOf]
      · have hd' : ¬ (2 : Int) * (p : Int) - 1 ≤ (r : Int) := by omega
        have HN : Hid (gr k n r = gr 49 0 c) := by rw [← HI2.out, (HO hd).out]; rfl
        clear HY HO HI2
        go_wp2
        go_round
        case rel => exact ⟨k, n, r, rfl, rfl, rfl, by omega, by omega, by rw [HP.out]; omega, HN⟩
        case measure => simp [intOf]
end Go.Proofs.Ytpjfmkmgfjhnmaa
