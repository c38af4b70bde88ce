import Derived.Test.YtpjfmkmgfjhnmaaPk
namespace Go.Proofs.Ytpjfmkmgfjhnmaa
open Go.RowKit Tlg
abbrev gl (i : Int) (s : Bool) : Value := .agg #[.int .i64 i, .bool s]
set_option maxRecDepth 100000 in
theorem recordGoal_walk (i : Int) (w : World) : Calls Try.prog 8 #[.int .i64 i] w fun e w' => e = .returned (gl i false) ∧ Up w w' := by
  have HU : Hid (∀ o, Up w (w.alloc o)) := fun o => (Up.refl _).alloc o
  go_enter Try.func8, Try.ntmps8
  go_wp2
  refine bodyPost_ret (results_agg1 rfl _ _ _ _ rfl (range_at (alloc_new _ _)) Try.underlying31 rfl (by kernel_rfl)) rfl ?_
  exact ⟨rfl, HU.out _⟩
/-- m - 1 as the machine reckons -/
def tid (m : Int) : Int := wrap64 (m - 1)
set_option maxRecDepth 100000 in
theorem treeGoal_walk (m : Int) (w : World) : Calls Try.prog 10 #[.int .i64 m] w fun e w' => e = .returned (gl (tid m) true) ∧ Up w w' := by
  have HU : Hid (∀ o, Up w (w.alloc o)) := fun o => (Up.refl _).alloc o
  go_enter Try.func10, Try.ntmps10
  go_wp2
  refine bodyPost_ret (results_agg1 rfl _ _ _ _ rfl (range_at (alloc_new _ _)) Try.underlying31 rfl (by kernel_rfl)) rfl ?_
  exact ⟨rfl, HU.out _⟩
def win (n i : Int) : Bool := decide (n ≤ 281474976710656) && (decide (0 ≤ i) && decide (i < n))
set_option maxRecDepth 100000 in
theorem within_goal (i n : Int) (s : Bool) (w : World) : Calls Try.prog 11 #[gl i s, .int .i64 n] w fun e w' => e = .returned (.bool (win n i)) ∧ Up w w' := by
  have HU : Hid (∀ o, Up w (w.alloc o)) := fun o => (Up.refl _).alloc o
  by_cases h1 : n ≤ 281474976710656
  · by_cases h2 : 0 ≤ i
    · by_cases h3 : i < n
      · have HF := Hid.of (show win n i = true ∧ True from ⟨by unfold win; simp [h1, h2, h3], trivial⟩)
        go_enter Try.func11, Try.ntmps11
        go_wp2
        go_ret
        rw [HF.out.1]
        exact ⟨by first | rfl | simp, HU.out _⟩
      · have HF := Hid.of (show win n i = false ∧ True from ⟨by unfold win; simp [h3], trivial⟩)
        go_enter Try.func11, Try.ntmps11
        go_wp2
        go_ret
        rw [HF.out.1]
        exact ⟨by first | rfl | simp, HU.out _⟩
    · have HF := Hid.of (show win n i = false ∧ True from ⟨by unfold win; simp [h2], trivial⟩)
      have d1 : decide (0 ≤ i) = false := by simp; omega
      go_enter Try.func11, Try.ntmps11
      go_wp2
      go_ret
      rw [HF.out.1]
      exact ⟨by first | rfl | simp, HU.out _⟩
  · have HF := Hid.of (show win n i = false ∧ True from ⟨by unfold win; simp [h1], trivial⟩)
    have d1 : decide (n ≤ 281474976710656) = false := by simp; omega
    go_enter Try.func11, Try.ntmps11
    go_wp2
    go_ret
    rw [HF.out.1]
    exact ⟨by first | rfl | simp, HU.out _⟩
set_option maxRecDepth 100000 in
theorem reached_walk (i a b : Nat) (s : Bool) (hi : i < 281474976710656) (hab : a < b) (hb : b ≤ 281474976710656) (w : World) : Calls Try.prog 15 #[gl i s, sp a b] w fun e w' => e = .returned (.bool (dn s i a b)) ∧ Up w w' := by
  have HU : Hid (∀ o p, Up w ((w.alloc o).alloc p)) := fun o p => ((Up.refl _).alloc o).alloc p
  cases s with
  | true =>
    have HF : Hid (((b : Int) == (i : Int) + 1) = dn true i a b ∧ True) := by
      refine ⟨?_, trivial⟩
      unfold dn
      rw [if_pos rfl]
      rw [Bool.eq_iff_iff]
      simp
      omega
    go_enter Try.func15, Try.ntmps15
    go_wp2
    go_ret
    rw [HF.out.1]
    exact ⟨rfl, HU.out _ _⟩
  | false =>
    have HS := fun w => Hid.of (size_walk a b (by omega) hb w)
    have HF : Hid ((((b - a : Nat) : Int) == 1) = dn false i a b ∧ True) := by
      refine ⟨?_, trivial⟩
      unfold dn
      rw [if_neg (by simp)]
      rw [Bool.eq_iff_iff]
      simp
      omega
    generalize b - a = n at HS HF
    go_enter Try.func15, Try.ntmps15
    go_wp2_with fail
    refine (HS _).out.mono ?_
    rintro e w2 ⟨rfl, u⟩
    have HU2 := Hid.of ((HU.out _ _).trans u)
    clear u
    dsimp only
    go_wp2
    go_ret
    rw [HF.out.1]
    exact ⟨rfl, HU2.out⟩
set_option maxRecDepth 100000 in
theorem held_walk (i a b : Nat) (s : Bool) (w : World) : Calls Try.prog 17 #[gl i s, sp a b] w fun e w' => e = .returned (.bool (s && decide (0 < a))) ∧ Up w w' := by
  have HU : Hid (∀ o p, Up w ((w.alloc o).alloc p)) := fun o p => ((Up.refl _).alloc o).alloc p
  cases s with
  | true =>
    go_enter Try.func17, Try.ntmps17
    go_wp2
    go_ret
    exact ⟨by simp, HU.out _ _⟩
  | false =>
    go_enter Try.func17, Try.ntmps17
    go_wp2
    go_ret
    exact ⟨by simp, HU.out _ _⟩
end Go.Proofs.Ytpjfmkmgfjhnmaa
