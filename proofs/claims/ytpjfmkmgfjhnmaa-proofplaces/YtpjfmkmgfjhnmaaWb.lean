import Derived.Test.YtpjfmkmgfjhnmaaWa
namespace Tlg
/-- Index's answer -/
def idx (L N : Int) : Int × Int := if 0 ≤ L ∧ L ≤ 48 ∧ 0 ≤ N ∧ (N + 1) * 2 ^ L.toNat ≤ 281474976710656 then ((plc L.toNat N.toNat : Int), 0) else (0, 1)
def spl (c : Int) : Int × Int × Int := if 0 ≤ c ∧ c < 562949953421311 then ((rr c.toNat : Int), (nd c.toNat : Int), 0) else (0, 0, 1)
def cnt (n : Int) : Int × Int := if 0 ≤ n ∧ n ≤ 281474976710656 then ((lay n.toNat : Int), 0) else (0, 1)
def rec' (c : Int) : Int × Int := if 0 ≤ c ∧ c ≤ 562949953421311 ∧ rr c.toNat = 0 then ((rn c.toNat : Int), 0) else (0, 80)
theorem idx_yes {l n : Nat} (hl : l ≤ 48) (h : (n + 1) * 2 ^ l ≤ 281474976710656) : idx (l : Int) (n : Int) = ((plc l n : Int), 0) := by
  unfold idx
  have h' : ((n : Int) + 1) * 2 ^ l ≤ 281474976710656 := by
    have h2 : (((n + 1) * 2 ^ l : Nat) : Int) ≤ ((281474976710656 : Nat) : Int) := Int.ofNat_le.2 h
    rwa [Int.natCast_mul, Int.natCast_add, Int.natCast_pow] at h2
  rw [if_pos ⟨by omega, by omega, by omega, by rw [Int.toNat_natCast]; exact h'⟩, Int.toNat_natCast, Int.toNat_natCast]
theorem spl_yes {c : Nat} (h : c < 562949953421311) : spl (c : Int) = ((rr c : Int), (nd c : Int), 0) := by
  unfold spl
  rw [if_pos ⟨by omega, by omega⟩, Int.toNat_natCast]
theorem cnt_yes {n : Nat} (h : n ≤ 281474976710656) : cnt (n : Int) = ((lay n : Int), 0) := by
  unfold cnt
  rw [if_pos ⟨by omega, by omega⟩, Int.toNat_natCast]
theorem rec_yes {c : Nat} (h : c ≤ 562949953421311) (h0 : rr c = 0) : rec' (c : Int) = ((rn c : Int), 0) := by
  unfold rec'
  rw [if_pos ⟨by omega, by omega, by rw [Int.toNat_natCast]; exact h0⟩, Int.toNat_natCast]
theorem rec_no {c : Nat} (h0 : rr c ≠ 0) : rec' (c : Int) = (0, 80) := by
  unfold rec'
  rw [if_neg (fun h => h0 (by have := h.2.2; rwa [Int.toNat_natCast] at this))]
theorem nd_fit {c : Nat} (h : c < 562949953421311) : rr c ≤ 48 ∧ rn c < 281474976710656 ∧ (nd c + 1) * 2 ^ rr c = rn c + 1 ∧ (rn c + 1) / 2 ^ rr c = nd c + 1 := by
  have h1 : c < 2 ^ 49 - 1 := h
  obtain ⟨_, a⟩ := plc_of (c := c) (by omega)
  refine ⟨rr_le h1, rn_lt h1, a, ?_⟩
  rw [← a, Nat.mul_div_cancel _ (Nat.pow_pos (by decide))]
end Tlg
namespace Go.Proofs.Ytpjfmkmgfjhnmaa
open Go.RowKit Tlg

/-- two, three numbers as an answer -/
abbrev a2 (p : Int × Int) : Value := .tuple #[.int .i64 p.1, .int .i64 p.2]
abbrev a3 (p : Int × Int × Int) : Value := .tuple #[.int .i64 p.1, .int .i64 p.2.1, .int .i64 p.2.2]

set_option maxRecDepth 100000 in
theorem Split_walk (n : Int) (h0 : -9223372036854775808 ≤ n) (h1 : n ≤ 9223372036854775807) (w : World) : Calls Try.prog 9 #[.int .i64 n] w fun e w' => e = .returned (a3 (spl n)) ∧ Up w w' := by
  go_enter Try.func9, Try.ntmps9
  by_cases hn : n < 0
  · have HF := Hid.of (show spl n = (0, 0, 1) by unfold spl; rw [if_neg (by omega)])
    go_wp2
    go_ret3
    rw [HF.out]
    exact ⟨rfl, Up.refl _⟩
  · by_cases hm : (562949953421311 : Int) ≤ n
    · have HF := Hid.of (show spl n = (0, 0, 1) by unfold spl; rw [if_neg (by omega)])
      have d1 : decide (n < 0) = false := by simp; omega
      go_wp2
      go_ret3
      rw [HF.out]
      exact ⟨rfl, Up.refl _⟩
    · obtain ⟨m, rfl⟩ : ∃ m : Nat, n = (m : Int) := ⟨n.toNat, by omega⟩
      have d1 : decide ((m : Int) < 0) = false := by simp
      have d2 : decide ((562949953421311 : Int) ≤ (m : Int)) = false := by simp; omega
      obtain ⟨b1, b2, b3, b4⟩ := nd_fit (c := m) (by omega)
      have HF := Hid.of (spl_yes (c := m) (by omega))
      have hs : ((rn m : Int) + 1) / 2 ^ rr m = (nd m : Int) + 1 := by
        have : (((rn m + 1) / 2 ^ rr m : Nat) : Int) = ((nd m + 1 : Nat) : Int) := by rw [b4]
        simpa using this
      have b5 : nd m + 1 ≤ rn m + 1 := by rw [← b4]; exact Nat.div_le_self _ _
      clear b3 b4
      go_wp2_with fail
      refine Calls.mono (within_walk m (by omega) w) ?_
      rintro e w' ⟨rfl, rfl⟩
      generalize rn m = q at *
      generalize rr m = r at *
      generalize nd m = d at *
      dsimp only
      go_wp2
      go_quiet (fail)
      go_wp2
      go_ret3
      rw [HF.out]
      exact ⟨rfl, (Up.refl _).drewN _⟩

set_option maxRecDepth 100000 in
theorem Index_walk (L n : Int) (b0 : -9223372036854775808 ≤ L) (b1 : L ≤ 9223372036854775807) (h0 : -9223372036854775808 ≤ n) (h1 : n ≤ 9223372036854775807) (w : World) : Calls Try.prog 23 #[.int .i64 L, .int .i64 n] w fun e w' => e = .returned (a2 (idx L n)) ∧ w' = w := by
  go_enter Try.func23, Try.ntmps23
  by_cases c1 : L < 0
  · have HF := Hid.of (show idx L n = (0, 1) by unfold idx; rw [if_neg (by omega)])
    go_wp2
    go_ret2
    rw [HF.out]
    exact ⟨rfl, rfl⟩
  have d1 : decide (L < 0) = false := by simp; omega
  by_cases c2 : (48 : Int) < L
  · have HF := Hid.of (show idx L n = (0, 1) by unfold idx; rw [if_neg (by omega)])
    go_wp2
    go_ret2
    rw [HF.out]
    exact ⟨rfl, rfl⟩
  have d2 : decide ((48 : Int) < L) = false := by simp; omega
  by_cases c3 : n < 0
  · have HF := Hid.of (show idx L n = (0, 1) by unfold idx; rw [if_neg (by omega)])
    go_wp2
    go_ret2
    rw [HF.out]
    exact ⟨rfl, rfl⟩
  have d3 : decide (n < 0) = false := by simp; omega
  obtain ⟨l, rfl⟩ : ∃ l : Nat, L = (l : Int) := ⟨L.toNat, by omega⟩
  obtain ⟨m, rfl⟩ : ∃ m : Nat, n = (m : Int) := ⟨n.toNat, by omega⟩
  have hl : l ≤ 48 := by omega
  have hq : (281474976710656 : Int) / 2 ^ l = ((281474976710656 / 2 ^ l : Nat) : Int) := by simp
  have HD : Hid (m < 281474976710656 / 2 ^ l ↔ (m + 1) * 2 ^ l ≤ 281474976710656) := Nat.le_div_iff_mul_le (Nat.pow_pos (by decide))
  have hqb : 281474976710656 / 2 ^ l ≤ 281474976710656 := Nat.div_le_self _ _
  generalize 281474976710656 / 2 ^ l = q at hq HD hqb
  clear c1 c2 c3
  by_cases c4 : (q : Int) ≤ (m : Int)
  · have HF := Hid.of (show idx (l : Int) (m : Int) = (0, 1) by
      unfold idx
      rw [if_neg]
      intro h
      have h2 := h.2.2.2
      rw [Int.toNat_natCast] at h2
      have h3 : (m + 1) * 2 ^ l ≤ 281474976710656 := by
        apply Int.ofNat_le.1
        rw [Int.natCast_mul, Int.natCast_add, Int.natCast_pow]
        exact h2
      have := HD.out.2 h3
      omega)
    clear HD
    go_wp2
    go_ret2
    rw [HF.out]
    exact ⟨rfl, rfl⟩
  · have hf : (m + 1) * 2 ^ l ≤ 281474976710656 := HD.out.1 (by omega)
    have HF := Hid.of (idx_yes hl hf)
    have HW := fun w => Hid.of (placeOf_walk l m hl hf w)
    have d4 : decide ((q : Int) ≤ (m : Int)) = false := by simp; omega
    clear hf HD
    go_wp2_with fail
    refine Calls.mono (HW w).out ?_
    rintro e w' ⟨rfl, rfl⟩
    dsimp only
    go_wp2
    go_ret2
    rw [HF.out]
    exact ⟨rfl, rfl⟩
end Go.Proofs.Ytpjfmkmgfjhnmaa
