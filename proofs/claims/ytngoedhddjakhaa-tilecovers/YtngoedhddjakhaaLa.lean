import Derived.Test.YtngoedhddjakhaaTw
import Derived.Test.YtngoedhddjakhaaTa
import Derived.Test.YtngoedhddjakhaaCm
import Derived.Deep.LoopGhost
namespace Go.Proofs.Ytngoedhddjakhaa
open Go.RowKit TileNum
/-- a tree cut into tiles -/
def ly (h s : Nat) : Value := .agg #[.int .i64 (h : Int), .int .i64 (s : Int)]
theorem eights {h : Nat} (h1 : 1 ≤ h) (h8 : h ≤ 8) : h = 1 ∨ h = 2 ∨ h = 3 ∨ h = 4 ∨ h = 5 ∨ h = 6 ∨ h = 7 ∨ h = 8 := by omega
theorem p256 {h : Nat} (h8 : h ≤ 8) : 2 ^ h ≤ 256 := Nat.pow_le_pow_right (by decide) h8
theorem wr2 {h p : Nat} (h1 : 1 ≤ h) (h8 : h ≤ 8) (hp : p = 2 ^ h) : wrap64 ((2 : Int) ^ h) = (p : Int) := by
  subst hp
  rcases eights h1 h8 with rfl | rfl | rfl | rfl | rfl | rfl | rfl | rfl <;> decide +kernel
set_option maxRecDepth 100000 in
theorem span_walk (h p : Nat) (h1 : 1 ≤ h) (h8 : h ≤ 8) (hp : p = 2 ^ h) (w : World) : Calls Try.prog 42 #[.int .i64 (h : Int)] w fun e w' => e = .returned (.int .i64 (p : Int)) ∧ w' = w := by
  have d1 : ¬ (h : Int) < 1 := by omega
  have d2 : ¬ (8 : Int) < (h : Int) := by omega
  have hz := wr2 h1 h8 hp
  clear hp
  go_enter Try.func42, Try.ntmps42
  go_wp2
  go_ret
  exact ⟨rfl, rfl⟩
theorem shr_min {s : Nat} (hs : s ≤ 281474976710656) (m : Nat) : (s : Int) / 2 ^ min m 64 = ((s / 2 ^ m : Nat) : Int) := by
  rcases Nat.le_total m 64 with h | h
  · rw [Nat.min_eq_left h]; simp
  · rw [Nat.min_eq_right h]
    have h64 : (2 : Nat) ^ 64 = 18446744073709551616 := by decide
    have h1 : s / 2 ^ m = 0 := Nat.div_eq_of_lt (Nat.lt_of_lt_of_le (by omega : s < 2 ^ 64) (Nat.pow_le_pow_right (by decide) h))
    rw [h1]
    omega
set_option maxRecDepth 100000 in
theorem nodes_walk (h l s : Nat) (h1 : 1 ≤ h) (h8 : h ≤ 8) (hs : s ≤ 281474976710656) (w : World) : Calls Try.prog 39 #[ly h s, .int .i64 (l : Int)] w fun e w' => e = .returned (.int .i64 (nd h l s : Int)) ∧ Up w w' := by
  unfold ly
  by_cases hl : 48 < l
  · have d1 : (48 : Int) < (l : Int) := by omega
    go_enter Try.func39, Try.ntmps39
    go_wp2
    go_ret
    rw [nd_far h1 hs (by omega)]
    exact ⟨rfl, (Up.refl _).alloc _⟩
  · have d1 : ¬ (48 : Int) < (l : Int) := by omega
    obtain ⟨m, hm⟩ : ∃ m, m = h * l := ⟨_, rfl⟩
    have hm2 : m ≤ 384 := by rw [hm]; exact Nat.mul_le_mul h8 (by omega : l ≤ 48)
    have hmz : (h : Int) * (l : Int) = (m : Int) := by rw [hm]; simp
    have HN : Hid (nd h l s = s / 2 ^ m) := by rw [hm]; rfl
    clear hm
    go_enter Try.func39, Try.ntmps39
    go_wp2
    go_ret
    rw [HN.out, ← shr_min hs m]
    exact ⟨rfl, (Up.refl _).alloc _⟩
set_option maxRecDepth 100000 in
set_option maxHeartbeats 1000000 in
theorem width_walk (h p l n s : Nat) (h1 : 1 ≤ h) (h8 : h ≤ 8) (hp : p = 2 ^ h) (hs : s ≤ 281474976710656) (w : World) : Calls Try.prog 46 #[ly h s, .int .i64 (l : Int), .int .i64 (n : Int)] w fun e w' => e = .returned (.int .i64 (wd h (nd h l s) n : Int)) ∧ Up w w' := by
  have HN := fun w => Hid.of (nodes_walk h l s h1 h8 hs w)
  have HSp := fun w => Hid.of (span_walk h p h1 h8 hp w)
  have hc := nd_le h l s
  unfold ly at HN ⊢
  generalize nd h l s = c at *
  have hp1 := p256 h8
  rw [← hp] at hp1
  have hp0 : 0 < p := by rw [hp]; exact pp h
  have HP := Hid.of hp
  have hq1 : (c : Int) / 2 ^ h = ((c / p : Nat) : Int) := by rw [hp]; simp
  have hq2 : c / p ≤ c := Nat.div_le_self _ _
  clear hp
  go_enter Try.func46, Try.ntmps46
  go_wp2_with fail
  refine (HN _).out.mono ?_
  rintro e w1 ⟨rfl, u1⟩
  have c0 := u1.cell (p := ⟨w.heap.size, 0, none⟩) (v := .int .i64 (h : Int)) (by simp)
  have HU := Hid.of (((Up.refl w).alloc _).trans u1)
  clear u1
  dsimp only
  by_cases hn2 : c / p < n
  · have hn2z : ((c / p : Nat) : Int) < (n : Int) := by omega
    have HW : Hid (wd h c n = 0) := by
      have h3 : c < n * p := by rw [← Nat.div_lt_iff_lt_mul hp0]; exact hn2
      rw [HP.out] at h3
      show wd h c n = 0
      unfold wd
      rw [Nat.sub_eq_zero_of_le (Nat.le_of_lt h3), Nat.zero_min]
    generalize c / p = q at *
    go_wp2
    go_ret
    rw [HW.out]
    exact ⟨rfl, HU.out⟩
  · have hn2z : ¬ ((c / p : Nat) : Int) < (n : Int) := by omega
    have h3 : n * p ≤ c := by rw [← Nat.le_div_iff_mul_le hp0]; omega
    obtain ⟨m, hm⟩ : ∃ m, m = n * p := ⟨_, rfl⟩
    rw [← hm] at h3
    have hmz : (n : Int) * 2 ^ h = (m : Int) := by rw [hm, HP.out]; simp
    have HW : Hid (wd h c n = min (c - m) p) := by rw [hm, HP.out]; rfl
    clear hm
    generalize c / p = q at *
    go_wp2
    go_quiet (exact Calls.quiet_of_same (HSp _).out)
    have e : (if (p : Int) < (c : Int) - (m : Int) then (p : Int) else (c : Int) - (m : Int)) = ((min (c - m) p : Nat) : Int) := by
      split <;> omega
    rw [e, ← HW.out]
    clear e
    obtain ⟨z, hz⟩ : ∃ z, z = wd h c n := ⟨_, rfl⟩
    rw [← hz]
    have HZ := Hid.of hz
    clear hz
    go_wp2
    go_ret
    rw [← HZ.out]
    exact ⟨rfl, HU.out.drewN _⟩
end Go.Proofs.Ytngoedhddjakhaa
