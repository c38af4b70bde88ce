import Derived.Test.YtepakbghhnkcfaaDoorGj
namespace Go.Proofs.YtepakbghhnkcfaaDoor
open Go.RowKit Go.Shelf TextNum ModNum
set_option maxRecDepth 100000 in
set_option maxHeartbeats 1000000 in
theorem due_gen (D u acts : Nat) (room used wrs trn ft : Int) (vM vL vC vLo : Value) (w : World) (hA : At w D 82 [.int .i64 room, .int .i64 used, .bool false, vM, vL, vC, vLo, .int .i64 wrs, .int .i64 trn, .int .i64 (acts : Int), .int .i64 (u : Int), .int .i64 ft]) (hu : u ≤ 4611686018427387904) :
    Calls Tryd.prog 54 #[pv D] w fun e w' => e = .returned (.int .i64 (if u = 1 then ft else 0)) ∧ At w' D 82 [.int .i64 room, .int .i64 used, .bool false, vM, vL, vC, vLo, .int .i64 wrs, .int .i64 trn, .int .i64 (acts : Int), .int .i64 ((u - 1 : Nat) : Int), .int .i64 ft] ∧ w.grownBy w' (some D) := by
  have hc := hA.cell (i := 10) rfl
  have hf := hA.cell (i := 11) rfl
  have ht := hA.thaw 10
  by_cases h0 : u = 0
  · subst h0
    have HA := Hid.of hA
    clear hA
    go_enter Tryd.func54, Tryd.ntmps54
    go_wp2
    go_ret
    exact ⟨rfl, HA.out, grown_refl _ _⟩
  · obtain ⟨v, rfl⟩ : ∃ v, u = v + 1 := ⟨u - 1, by omega⟩
    have HA1 := Hid.of (hA.set 10 (.int .i64 ((v : Nat) : Int)))
    have HG1 := Hid.of (grown_at w D 10 (.int .i64 ((v : Nat) : Int)))
    have c1 := HA1.out.cell (i := 10) rfl
    have c2 := HA1.out.cell (i := 11) rfl
    have e1 : (((v + 1 : Nat) : Int) == 0) = false := by rw [beq_eq_false_iff_ne]; omega
    have e2 : ((v + 1 : Nat) : Int) - 1 = (v : Int) := by omega
    have hsub : v + 1 - 1 = v := rfl
    clear hA
    by_cases hv : v = 0
    · subst hv
      go_enter Tryd.func54, Tryd.ntmps54
      go_wp2
      go_ret
      exact ⟨rfl, HA1.out, HG1.out⟩
    · have e3 : (0 : Int) < (v : Int) := by omega
      go_enter Tryd.func54, Tryd.ntmps54
      go_wp2
      go_ret
      exact ⟨rfl, HA1.out, HG1.out⟩
set_option maxRecDepth 100000 in
set_option maxHeartbeats 1000000 in
theorem act_err2 (D u acts : Nat) (room used wrs trn ft : Int) (vM vL vC vLo : Value) (fv : Value) (own : Int) (w : World) (hA : At w D 82 [.int .i64 room, .int .i64 used, .bool false, vM, vL, vC, vLo, .int .i64 wrs, .int .i64 trn, .int .i64 (acts : Int), .int .i64 (u : Int), .int .i64 ft]) (hu : u ≤ 4611686018427387904) (h1 : acts ≤ 4611686018427387904) (ho : own ≠ 0) :
    Calls Tryd.prog 27 #[pv D, .int .i64 own, fv] w fun e w1 => e = .returned (.int .i64 own) ∧ At w1 D 82 [.int .i64 room, .int .i64 used, .bool false, vM, vL, vC, vLo, .int .i64 wrs, .int .i64 trn, .int .i64 ((acts + 1 : Nat) : Int), .int .i64 ((u - 1 : Nat) : Int), .int .i64 ft] ∧ w.grownBy w1 (some D) := by
  have hc2 := hA.cell (i := 2) rfl
  have hc9 := hA.cell (i := 9) rfl
  have ht9 := hA.thaw 9
  have ea : (acts : Int) + 1 = ((acts + 1 : Nat) : Int) := by omega
  have HA1 := Hid.of (hA.set 9 (.int .i64 ((acts : Int) + 1)))
  have HG1 := Hid.of (grown_at w D 9 (.int .i64 ((acts : Int) + 1)))
  have HA1' := Hid.of (show At (w.setCell ⟨D, 9, none⟩ (.int .i64 ((acts : Int) + 1))) D 82 [.int .i64 room, .int .i64 used, .bool false, vM, vL, vC, vLo, .int .i64 wrs, .int .i64 trn, .int .i64 ((acts + 1 : Nat) : Int), .int .i64 (u : Int), .int .i64 ft] by rw [← ea]; exact HA1.out)
  have HD := Hid.of (due_gen D u (acts + 1) room used wrs trn ft vM vL vC vLo _ HA1'.out hu)
  have hoz : (own != 0) = true := by rw [bne_iff_ne]; exact ho
  clear hA ho HA1 ea HA1'
  generalize (if u = 1 then ft else 0) = q at HD
  generalize u - 1 = u2 at *
  generalize acts + 1 = a2 at *
  go_enter Tryd.func27, Tryd.ntmps27
  go_wp2_with fail
  refine HD.out.mono ?_
  rintro e w1 ⟨rfl, a1, g1⟩
  have HA2 := Hid.of a1
  have HG2 := Hid.of (grown_trans HG1.out g1)
  clear a1 g1
  dsimp only
  clear hc2 hc9 ht9
  go_wp2
  go_ret
  exact ⟨rfl, HA2.out, HG2.out⟩
set_option maxRecDepth 100000 in
set_option maxHeartbeats 1000000 in
theorem act2_Create1 (D u acts : Nat) (room used wrs trn ft : Int) (vM vL vC vLo : Value) (c0 c1 : Value) (w : World) (hA : At w D 82 [.int .i64 room, .int .i64 used, .bool false, vM, vL, vC, vLo, .int .i64 wrs, .int .i64 trn, .int .i64 (acts : Int), .int .i64 (u : Int), .int .i64 ft]) (hu : u ≤ 4611686018427387904) (hu1 : u ≠ 1) (h1 : acts ≤ 4611686018427387904) (Post : World → Prop)
    (H : ∀ w1, At w1 D 82 [.int .i64 room, .int .i64 used, .bool false, vM, vL, vC, vLo, .int .i64 wrs, .int .i64 trn, .int .i64 ((acts + 1 : Nat) : Int), .int .i64 ((u - 1 : Nat) : Int), .int .i64 ft] → w.grownBy w1 (some D) → Calls Tryd.prog 29 #[c0, c1] w1 fun e w2 => e = .returned (.tuple #[]) ∧ Post w2) :
    Calls Tryd.prog 27 #[pv D, .int .i64 0, .func (.func 29) #[] #[c0, c1]] w fun e w2 => e = .returned (.int .i64 0) ∧ Post w2 := by
  have hc2 := hA.cell (i := 2) rfl
  have hc9 := hA.cell (i := 9) rfl
  have ht9 := hA.thaw 9
  have ea : (acts : Int) + 1 = ((acts + 1 : Nat) : Int) := by omega
  have HA1 := Hid.of (hA.set 9 (.int .i64 ((acts : Int) + 1)))
  have HG1 := Hid.of (grown_at w D 9 (.int .i64 ((acts : Int) + 1)))
  have HA1' := Hid.of (show At (w.setCell ⟨D, 9, none⟩ (.int .i64 ((acts : Int) + 1))) D 82 [.int .i64 room, .int .i64 used, .bool false, vM, vL, vC, vLo, .int .i64 wrs, .int .i64 trn, .int .i64 ((acts + 1 : Nat) : Int), .int .i64 (u : Int), .int .i64 ft] by rw [← ea]; exact HA1.out)
  have HD := Hid.of (due_gen D u (acts + 1) room used wrs trn ft vM vL vC vLo _ HA1'.out hu)
  rw [if_neg hu1] at HD
  have HC := Hid.of H
  clear hA H HA1 HA1' ea hu1
  go_enter Tryd.func27, Tryd.ntmps27
  go_wp2_with fail
  refine HD.out.mono ?_
  rintro e w1 ⟨rfl, a1, g1⟩
  have HCC := Hid.of (HC.out w1 a1 (grown_trans HG1.out g1))
  clear a1 g1 HC
  dsimp only
  clear hc2 hc9 ht9
  go_wp2_with fail
  refine HCC.out.mono ?_
  rintro e w2 ⟨rfl, hp⟩
  have HP := Hid.of hp
  clear hp
  dsimp only
  go_wp2
  go_ret
  exact ⟨rfl, HP.out⟩
set_option maxRecDepth 100000 in
set_option maxHeartbeats 1000000 in
theorem act2_Write1 (D u acts : Nat) (room used wrs trn ft : Int) (vM vL vC vLo : Value) (c0 c1 c2 c3 : Value) (w : World) (hA : At w D 82 [.int .i64 room, .int .i64 used, .bool false, vM, vL, vC, vLo, .int .i64 wrs, .int .i64 trn, .int .i64 (acts : Int), .int .i64 (u : Int), .int .i64 ft]) (hu : u ≤ 4611686018427387904) (hu1 : u ≠ 1) (h1 : acts ≤ 4611686018427387904) (Post : World → Prop)
    (H : ∀ w1, At w1 D 82 [.int .i64 room, .int .i64 used, .bool false, vM, vL, vC, vLo, .int .i64 wrs, .int .i64 trn, .int .i64 ((acts + 1 : Nat) : Int), .int .i64 ((u - 1 : Nat) : Int), .int .i64 ft] → w.grownBy w1 (some D) → Calls Tryd.prog 35 #[c0, c1, c2, c3] w1 fun e w2 => e = .returned (.tuple #[]) ∧ Post w2) :
    Calls Tryd.prog 27 #[pv D, .int .i64 0, .func (.func 35) #[] #[c0, c1, c2, c3]] w fun e w2 => e = .returned (.int .i64 0) ∧ Post w2 := by
  have hc2 := hA.cell (i := 2) rfl
  have hc9 := hA.cell (i := 9) rfl
  have ht9 := hA.thaw 9
  have ea : (acts : Int) + 1 = ((acts + 1 : Nat) : Int) := by omega
  have HA1 := Hid.of (hA.set 9 (.int .i64 ((acts : Int) + 1)))
  have HG1 := Hid.of (grown_at w D 9 (.int .i64 ((acts : Int) + 1)))
  have HA1' := Hid.of (show At (w.setCell ⟨D, 9, none⟩ (.int .i64 ((acts : Int) + 1))) D 82 [.int .i64 room, .int .i64 used, .bool false, vM, vL, vC, vLo, .int .i64 wrs, .int .i64 trn, .int .i64 ((acts + 1 : Nat) : Int), .int .i64 (u : Int), .int .i64 ft] by rw [← ea]; exact HA1.out)
  have HD := Hid.of (due_gen D u (acts + 1) room used wrs trn ft vM vL vC vLo _ HA1'.out hu)
  rw [if_neg hu1] at HD
  have HC := Hid.of H
  clear hA H HA1 HA1' ea hu1
  go_enter Tryd.func27, Tryd.ntmps27
  go_wp2_with fail
  refine HD.out.mono ?_
  rintro e w1 ⟨rfl, a1, g1⟩
  have HCC := Hid.of (HC.out w1 a1 (grown_trans HG1.out g1))
  clear a1 g1 HC
  dsimp only
  clear hc2 hc9 ht9
  go_wp2_with fail
  refine HCC.out.mono ?_
  rintro e w2 ⟨rfl, hp⟩
  have HP := Hid.of hp
  clear hp
  dsimp only
  go_wp2
  go_ret
  exact ⟨rfl, HP.out⟩
set_option maxRecDepth 100000 in
set_option maxHeartbeats 1000000 in
theorem act2_Rename1 (D u acts : Nat) (room used wrs trn ft : Int) (vM vL vC vLo : Value) (c0 c1 c2 : Value) (w : World) (hA : At w D 82 [.int .i64 room, .int .i64 used, .bool false, vM, vL, vC, vLo, .int .i64 wrs, .int .i64 trn, .int .i64 (acts : Int), .int .i64 (u : Int), .int .i64 ft]) (hu : u ≤ 4611686018427387904) (hu1 : u ≠ 1) (h1 : acts ≤ 4611686018427387904) (Post : World → Prop)
    (H : ∀ w1, At w1 D 82 [.int .i64 room, .int .i64 used, .bool false, vM, vL, vC, vLo, .int .i64 wrs, .int .i64 trn, .int .i64 ((acts + 1 : Nat) : Int), .int .i64 ((u - 1 : Nat) : Int), .int .i64 ft] → w.grownBy w1 (some D) → Calls Tryd.prog 42 #[c0, c1, c2] w1 fun e w2 => e = .returned (.tuple #[]) ∧ Post w2) :
    Calls Tryd.prog 27 #[pv D, .int .i64 0, .func (.func 42) #[] #[c0, c1, c2]] w fun e w2 => e = .returned (.int .i64 0) ∧ Post w2 := by
  have hc2 := hA.cell (i := 2) rfl
  have hc9 := hA.cell (i := 9) rfl
  have ht9 := hA.thaw 9
  have ea : (acts : Int) + 1 = ((acts + 1 : Nat) : Int) := by omega
  have HA1 := Hid.of (hA.set 9 (.int .i64 ((acts : Int) + 1)))
  have HG1 := Hid.of (grown_at w D 9 (.int .i64 ((acts : Int) + 1)))
  have HA1' := Hid.of (show At (w.setCell ⟨D, 9, none⟩ (.int .i64 ((acts : Int) + 1))) D 82 [.int .i64 room, .int .i64 used, .bool false, vM, vL, vC, vLo, .int .i64 wrs, .int .i64 trn, .int .i64 ((acts + 1 : Nat) : Int), .int .i64 (u : Int), .int .i64 ft] by rw [← ea]; exact HA1.out)
  have HD := Hid.of (due_gen D u (acts + 1) room used wrs trn ft vM vL vC vLo _ HA1'.out hu)
  rw [if_neg hu1] at HD
  have HC := Hid.of H
  clear hA H HA1 HA1' ea hu1
  go_enter Tryd.func27, Tryd.ntmps27
  go_wp2_with fail
  refine HD.out.mono ?_
  rintro e w1 ⟨rfl, a1, g1⟩
  have HCC := Hid.of (HC.out w1 a1 (grown_trans HG1.out g1))
  clear a1 g1 HC
  dsimp only
  clear hc2 hc9 ht9
  go_wp2_with fail
  refine HCC.out.mono ?_
  rintro e w2 ⟨rfl, hp⟩
  have HP := Hid.of hp
  clear hp
  dsimp only
  go_wp2
  go_ret
  exact ⟨rfl, HP.out⟩
set_option maxRecDepth 100000 in
set_option maxHeartbeats 1000000 in
theorem act2_Remove1 (D u acts : Nat) (room used wrs trn ft : Int) (vM vL vC vLo : Value) (c0 c1 : Value) (w : World) (hA : At w D 82 [.int .i64 room, .int .i64 used, .bool false, vM, vL, vC, vLo, .int .i64 wrs, .int .i64 trn, .int .i64 (acts : Int), .int .i64 (u : Int), .int .i64 ft]) (hu : u ≤ 4611686018427387904) (hu1 : u ≠ 1) (h1 : acts ≤ 4611686018427387904) (Post : World → Prop)
    (H : ∀ w1, At w1 D 82 [.int .i64 room, .int .i64 used, .bool false, vM, vL, vC, vLo, .int .i64 wrs, .int .i64 trn, .int .i64 ((acts + 1 : Nat) : Int), .int .i64 ((u - 1 : Nat) : Int), .int .i64 ft] → w.grownBy w1 (some D) → Calls Tryd.prog 40 #[c0, c1] w1 fun e w2 => e = .returned (.tuple #[]) ∧ Post w2) :
    Calls Tryd.prog 27 #[pv D, .int .i64 0, .func (.func 40) #[] #[c0, c1]] w fun e w2 => e = .returned (.int .i64 0) ∧ Post w2 := by
  have hc2 := hA.cell (i := 2) rfl
  have hc9 := hA.cell (i := 9) rfl
  have ht9 := hA.thaw 9
  have ea : (acts : Int) + 1 = ((acts + 1 : Nat) : Int) := by omega
  have HA1 := Hid.of (hA.set 9 (.int .i64 ((acts : Int) + 1)))
  have HG1 := Hid.of (grown_at w D 9 (.int .i64 ((acts : Int) + 1)))
  have HA1' := Hid.of (show At (w.setCell ⟨D, 9, none⟩ (.int .i64 ((acts : Int) + 1))) D 82 [.int .i64 room, .int .i64 used, .bool false, vM, vL, vC, vLo, .int .i64 wrs, .int .i64 trn, .int .i64 ((acts + 1 : Nat) : Int), .int .i64 (u : Int), .int .i64 ft] by rw [← ea]; exact HA1.out)
  have HD := Hid.of (due_gen D u (acts + 1) room used wrs trn ft vM vL vC vLo _ HA1'.out hu)
  rw [if_neg hu1] at HD
  have HC := Hid.of H
  clear hA H HA1 HA1' ea hu1
  go_enter Tryd.func27, Tryd.ntmps27
  go_wp2_with fail
  refine HD.out.mono ?_
  rintro e w1 ⟨rfl, a1, g1⟩
  have HCC := Hid.of (HC.out w1 a1 (grown_trans HG1.out g1))
  clear a1 g1 HC
  dsimp only
  clear hc2 hc9 ht9
  go_wp2_with fail
  refine HCC.out.mono ?_
  rintro e w2 ⟨rfl, hp⟩
  have HP := Hid.of hp
  clear hp
  dsimp only
  go_wp2
  go_ret
  exact ⟨rfl, HP.out⟩
end Go.Proofs.YtepakbghhnkcfaaDoor
