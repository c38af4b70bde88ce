import Derived.Test.YtnopkpalohehkaaPk
import Derived.Test.YtnopkpalohehkaaOr
namespace Go.Proofs.Ytnopkpalohehkaa
open Go.RowKit Tlg

set_option maxRecDepth 100000 in
theorem power_walk (l q : Nat) (hl : l ≤ 48) (hq : Hid (2 ^ l = q)) (w : World) : Calls Try.prog 23 #[.int .i64 (l : Int)] w fun e w' => e = .returned (.int .i64 (q : Int)) ∧ w' = w := by
  go_enter Try.func23, Try.ntmps23
  go_wp2
  go_loop [3, 4] (fun v3 v4 => ∃ i p : Nat, v3 = .int .i64 (p : Int) ∧ v4 = .int .i64 (i : Int) ∧ i ≤ l ∧ p ≤ 281474976710656 ∧ Hid (2 ^ i = p)) (fun _ v4 => l - (intOf v4).toNat)
  case atStart => exact ⟨0, 1, rfl, rfl, by omega, by omega, rfl⟩
  case round =>
    obtain ⟨i, p, rfl, rfl, hi, hp, hI⟩ := hrel
    by_cases hlt : i < l
    · have hlt' : (i : Int) < (l : Int) := by omega
      have HN : Hid (2 ^ (i + 1) = 2 * p) := by
        have := hI.out
        show 2 ^ (i + 1) = 2 * p
        rw [Nat.pow_succ, this]; omega
      have hb : 2 * p ≤ 281474976710656 := by
        rw [← HN.out]
        exact two48 (by omega)
      clear hI
      go_wp2
      go_round
      case rel => exact ⟨i + 1, 2 * p, by go_num, by go_num, by omega, by omega, HN⟩
      case measure => simp [intOf]; omega
    · obtain rfl : i = l := by omega
      have HE : Hid (q = p) := hq.out.symm.trans hI.out
      go_wp2
      go_ret
      rw [HE.out]
      exact ⟨rfl, rfl⟩

set_option maxRecDepth 100000 in
theorem laid_walk (n : Nat) (hn : n ≤ 281474976710656) (w : World) : Calls Try.prog 24 #[.int .i64 (n : Int)] w fun e w' => e = .returned (.int .i64 (lay n : Int)) ∧ w' = w := by
  have HB := Hid.of (lay_bound hn).1
  go_enter Try.func24, Try.ntmps24
  go_wp2
  go_loop [0, 3] (fun v0 v3 => ∃ m s : Nat, v0 = .int .i64 (m : Int) ∧ v3 = .int .i64 (s : Int) ∧ m ≤ 281474976710656 ∧ s ≤ 562949953421311 ∧ Hid (s + lay m = lay n)) (fun v0 _ => (intOf v0).toNat)
  case atStart => exact ⟨n, 0, rfl, rfl, hn, by omega, Nat.zero_add _⟩
  case round =>
    obtain ⟨m, s, rfl, rfl, hm, hs, hI⟩ := hrel
    rcases Nat.eq_zero_or_pos m with rfl | hm0
    · go_wp2
      go_ret
      rw [← hI.out, lay_zero]
      exact ⟨rfl, rfl⟩
    · have hm1 : (0 : Int) < (m : Int) := by omega
      have HN : Hid (s + m + lay (m / 2) = lay n) := by
        have := hI.out
        rw [lay_step m] at this
        show s + m + lay (m / 2) = lay n
        omega
      have hb : s + m ≤ 562949953421311 := by have := HN.out; have := HB.out; omega
      clear hI
      go_wp2
      go_round
      case rel => exact ⟨m / 2, s + m, by go_num, by go_num, by omega, by omega, HN⟩
      case measure => simp [intOf]; omega

set_option maxRecDepth 100000 in
theorem record_walk (c : Nat) (hc : c ≤ 562949953421311) (w : World) : Calls Try.prog 25 #[.int .i64 (c : Int)] w fun e w' => e = .returned (.int .i64 (rn c : Int)) ∧ w' = w := by
  have hT : lay 281474976710656 = 562949953421311 := lay_top
  have HT : Hid (c < lay (281474976710656 + 1)) := by
    have := lay_le (show 281474976710656 ≤ 281474976710656 + 1 by omega)
    show c < lay (281474976710656 + 1)
    omega
  clear hT
  go_enter Try.func25, Try.ntmps25
  go_wp2
  go_loop [3, 4] (fun v3 v4 => ∃ lo hi : Nat, v3 = .int .i64 (lo : Int) ∧ v4 = .int .i64 (hi : Int) ∧ lo ≤ hi ∧ hi ≤ 281474976710656 ∧ Hid (lay lo ≤ c ∧ c < lay (hi + 1))) (fun v3 v4 => (intOf v4 - intOf v3).toNat)
  case atStart => exact ⟨0, 281474976710656, rfl, rfl, by omega, by omega, ⟨by rw [lay_zero]; omega, HT.out⟩⟩
  case round =>
    obtain ⟨lo, hi, rfl, rfl, h1, h2, hI⟩ := hrel
    by_cases hlt : lo < hi
    · have hlt' : (lo : Int) < (hi : Int) := by omega
      obtain ⟨mid, hmid⟩ : ∃ mid, (lo + hi + 1) / 2 = mid := ⟨_, rfl⟩
      have hq : ((lo : Int) + (hi : Int) + 1) / 2 = (mid : Int) := by omega
      have m1 : lo < mid := by omega
      have m2 : mid ≤ hi := by omega
      have hmb := (lay_bound (n := mid) (by omega)).1
      clear hmid
      go_wp2_with fail
      refine Calls.mono (laid_walk mid (by omega) w) ?_
      rintro e w' ⟨rfl, rfl⟩
      dsimp only
      by_cases hd : lay mid ≤ c
      · have hd' : (lay mid : Int) ≤ (c : Int) := by omega
        have HN : Hid (lay mid ≤ c ∧ c < lay (hi + 1)) := ⟨hd, hI.out.2⟩
        clear hI hq
        go_wp2
        go_round
        case rel => exact ⟨mid, hi, rfl, rfl, by omega, by omega, HN⟩
        case measure => simp [intOf]; omega
      · have hd' : ¬ (lay mid : Int) ≤ (c : Int) := by omega
        have HN : Hid (lay lo ≤ c ∧ c < lay (mid - 1 + 1)) := ⟨hI.out.1, by rw [Nat.sub_add_cancel (by omega)]; omega⟩
        clear hI hq
        go_wp2
        go_round
        case rel => exact ⟨lo, mid - 1, rfl, by go_num, by omega, by omega, HN⟩
        case measure => simp [intOf]; omega
    · obtain rfl : lo = hi := by omega
      have HR : Hid (rn c = lo) := rn_uniq (show c ≤ 2 ^ 49 - 1 from hc) hI.out.1 hI.out.2
      go_wp2
      go_ret
      rw [HR.out]
      exact ⟨rfl, rfl⟩
end Go.Proofs.Ytnopkpalohehkaa
