import Derived.Test.YtaibjeehjhlicaaGreatDoorQaw
namespace Go.Proofs.YtaibjeehjhlicaaGreatDoor
open Go.RowKit Go.Shelf TextNum ModNum
set_option maxRecDepth 100000 in
set_option maxHeartbeats 1000000 in
theorem due3 (D u acts : Nat) (room used wrs trn ft : Int) (vM vL vC vLo : Value) (w : World) (hA : At w D 85 [.int .i64 room, .int .i64 used, .bool false, vM, vL, vC, vLo, .int .i64 wrs, .int .i64 trn, .int .i64 (acts : Int), .int .i64 (u : Int), .int .i64 ft]) (hu : u ≤ 9223372036854775807) :
    Calls Tryz.prog 93 #[pv D] w fun e w' => e = .returned (.int .i64 (if u = 1 then ft else 0)) ∧ At w' D 85 [.int .i64 room, .int .i64 used, .bool false, vM, vL, vC, vLo, .int .i64 wrs, .int .i64 trn, .int .i64 (acts : Int), .int .i64 ((u - 1 : Nat) : Int), .int .i64 ft] ∧ w.grownBy w' (some D) := by
  have hc := hA.cell (i := 10) rfl
  have hf := hA.cell (i := 11) rfl
  have ht := hA.thaw 10
  by_cases h0 : u = 0
  · subst h0
    have HA := Hid.of hA
    clear hA
    go_enter Tryz.func93, Tryz.ntmps93
    go_wp2
    go_ret
    exact ⟨rfl, HA.out, grown_refl _ _⟩
  · obtain ⟨v, rfl⟩ : ∃ v, u = v + 1 := ⟨u - 1, by omega⟩
    have HA1 := Hid.of (hA.set 10 (.int .i64 ((v : Nat) : Int)))
    have HG1 := Hid.of (grown_at w D 10 (.int .i64 ((v : Nat) : Int)))
    have c1 := HA1.out.cell (i := 10) rfl
    have c2 := HA1.out.cell (i := 11) rfl
    have e1 : (((v + 1 : Nat) : Int) == 0) = false := by rw [beq_eq_false_iff_ne]; omega
    have e2 : ((v + 1 : Nat) : Int) - 1 = (v : Int) := by omega
    have hsub : v + 1 - 1 = v := rfl
    clear hA
    by_cases hv : v = 0
    · subst hv
      go_enter Tryz.func93, Tryz.ntmps93
      go_wp2
      go_ret
      exact ⟨rfl, HA1.out, HG1.out⟩
    · have e3 : (0 : Int) < (v : Int) := by omega
      go_enter Tryz.func93, Tryz.ntmps93
      go_wp2
      go_ret
      exact ⟨rfl, HA1.out, HG1.out⟩
set_option maxRecDepth 100000 in
set_option maxHeartbeats 1000000 in
theorem act_dead (D : Nat) (room used wrs trn acts unt ft : Int) (vM vL vC vLo : Value) (fv : Value) (own : Int) (w : World) (hA : At w D 85 [.int .i64 room, .int .i64 used, .bool true, vM, vL, vC, vLo, .int .i64 wrs, .int .i64 trn, .int .i64 acts, .int .i64 unt, .int .i64 ft]) :
    Calls Tryz.prog 45 #[pv D, .int .i64 own, fv] w fun e w1 => e = .returned (.int .i64 125) ∧ w1 = w := by
  have hc2 := hA.cell (i := 2) rfl
  clear hA
  go_enter Tryz.func45, Tryz.ntmps45
  go_wp2
  go_ret
  exact ⟨rfl, rfl⟩
set_option maxRecDepth 100000 in
set_option maxHeartbeats 1000000 in
theorem act_own (D u acts : Nat) (room used wrs trn ft : Int) (vM vL vC vLo : Value) (fv : Value) (own : Int) (w : World) (hA : At w D 85 [.int .i64 room, .int .i64 used, .bool false, vM, vL, vC, vLo, .int .i64 wrs, .int .i64 trn, .int .i64 (acts : Int), .int .i64 (u : Int), .int .i64 ft]) (hu : u ≤ 9223372036854775807) (h1 : acts ≤ 4611686018427387904) (ho : own ≠ 0) :
    Calls Tryz.prog 45 #[pv D, .int .i64 own, fv] w fun e w1 => e = .returned (.int .i64 own) ∧ At w1 D 85 [.int .i64 room, .int .i64 used, .bool false, vM, vL, vC, vLo, .int .i64 wrs, .int .i64 trn, .int .i64 ((acts + 1 : Nat) : Int), .int .i64 ((u - 1 : Nat) : Int), .int .i64 ft] ∧ w.grownBy w1 (some D) := by
  have hc2 := hA.cell (i := 2) rfl
  have hc9 := hA.cell (i := 9) rfl
  have ht9 := hA.thaw 9
  have ea : (acts : Int) + 1 = ((acts + 1 : Nat) : Int) := by omega
  have HA1 := Hid.of (hA.set 9 (.int .i64 ((acts : Int) + 1)))
  have HG1 := Hid.of (grown_at w D 9 (.int .i64 ((acts : Int) + 1)))
  have HA1' := Hid.of (show At (w.setCell ⟨D, 9, none⟩ (.int .i64 ((acts : Int) + 1))) D 85 [.int .i64 room, .int .i64 used, .bool false, vM, vL, vC, vLo, .int .i64 wrs, .int .i64 trn, .int .i64 ((acts + 1 : Nat) : Int), .int .i64 (u : Int), .int .i64 ft] by rw [← ea]; exact HA1.out)
  have HD := Hid.of (due3 D u (acts + 1) room used wrs trn ft vM vL vC vLo _ HA1'.out hu)
  have hoz : (own != 0) = true := by rw [bne_iff_ne]; exact ho
  clear hA ho HA1 ea HA1'
  generalize (if u = 1 then ft else 0) = q at HD
  generalize u - 1 = u2 at *
  generalize acts + 1 = a2 at *
  go_enter Tryz.func45, Tryz.ntmps45
  go_wp2_with fail
  refine HD.out.mono ?_
  rintro e w1 ⟨rfl, a1, g1⟩
  have HA2 := Hid.of a1
  have HG2 := Hid.of (grown_trans HG1.out g1)
  clear a1 g1
  dsimp only
  clear hc2 hc9 ht9
  go_wp2
  go_ret
  exact ⟨rfl, HA2.out, HG2.out⟩
set_option maxRecDepth 100000 in
set_option maxHeartbeats 1000000 in
/-- an act that fails -/
theorem act_bad (D u acts : Nat) (room used wrs trn ft : Int) (vM vL vC vLo : Value) (fv : Value) (w : World) (hA : At w D 85 [.int .i64 room, .int .i64 used, .bool false, vM, vL, vC, vLo, .int .i64 wrs, .int .i64 trn, .int .i64 (acts : Int), .int .i64 (u : Int), .int .i64 ft]) (hu : u ≤ 9223372036854775807) (h1 : acts ≤ 4611686018427387904) (q : Int) (hq : (if u = 1 then ft else 0) = q) (q0 : q ≠ 0) (q1 : q ≠ 125) :
    Calls Tryz.prog 45 #[pv D, .int .i64 0, fv] w fun e w1 => e = .returned (.int .i64 q) ∧ At w1 D 85 [.int .i64 room, .int .i64 used, .bool false, vM, vL, vC, vLo, .int .i64 wrs, .int .i64 trn, .int .i64 ((acts + 1 : Nat) : Int), .int .i64 ((u - 1 : Nat) : Int), .int .i64 ft] ∧ w.grownBy w1 (some D) := by
  have hc2 := hA.cell (i := 2) rfl
  have hc9 := hA.cell (i := 9) rfl
  have ht9 := hA.thaw 9
  have ea : (acts : Int) + 1 = ((acts + 1 : Nat) : Int) := by omega
  have HA1 := Hid.of (hA.set 9 (.int .i64 ((acts : Int) + 1)))
  have HG1 := Hid.of (grown_at w D 9 (.int .i64 ((acts : Int) + 1)))
  have HA1' := Hid.of (show At (w.setCell ⟨D, 9, none⟩ (.int .i64 ((acts : Int) + 1))) D 85 [.int .i64 room, .int .i64 used, .bool false, vM, vL, vC, vLo, .int .i64 wrs, .int .i64 trn, .int .i64 ((acts + 1 : Nat) : Int), .int .i64 (u : Int), .int .i64 ft] by rw [← ea]; exact HA1.out)
  have HD := Hid.of (due3 D u (acts + 1) room used wrs trn ft vM vL vC vLo _ HA1'.out hu)
  rw [hq] at HD
  have hq0 : (q == 0) = false := by rw [beq_eq_false_iff_ne]; exact q0
  have hq1 : (q == 125) = false := by rw [beq_eq_false_iff_ne]; exact q1
  clear hA hq q0 q1 HA1 ea HA1'
  generalize u - 1 = u2 at *
  generalize acts + 1 = a2 at *
  go_enter Tryz.func45, Tryz.ntmps45
  go_wp2_with fail
  refine HD.out.mono ?_
  rintro e w1 ⟨rfl, a1, g1⟩
  have HA2 := Hid.of a1
  have HG2 := Hid.of (grown_trans HG1.out g1)
  clear a1 g1
  dsimp only
  clear hc2 hc9 ht9
  go_wp2
  go_ret
  exact ⟨rfl, HA2.out, HG2.out⟩
set_option maxRecDepth 100000 in
set_option maxHeartbeats 1000000 in
theorem act3_Create (D u acts : Nat) (room used wrs trn ft : Int) (vM vL vC vLo : Value) (c0 c1 : Value) (w : World) (hA : At w D 85 [.int .i64 room, .int .i64 used, .bool false, vM, vL, vC, vLo, .int .i64 wrs, .int .i64 trn, .int .i64 (acts : Int), .int .i64 (u : Int), .int .i64 ft]) (hu : u ≤ 9223372036854775807) (h1 : acts ≤ 4611686018427387904) (hq : (if u = 1 then ft else 0) = 0) (Post : World → Prop)
    (H : ∀ w1, At w1 D 85 [.int .i64 room, .int .i64 used, .bool false, vM, vL, vC, vLo, .int .i64 wrs, .int .i64 trn, .int .i64 ((acts + 1 : Nat) : Int), .int .i64 ((u - 1 : Nat) : Int), .int .i64 ft] → w.grownBy w1 (some D) → Calls Tryz.prog 52 #[c0, c1] w1 fun e w2 => e = .returned (.tuple #[]) ∧ Post w2) :
    Calls Tryz.prog 45 #[pv D, .int .i64 0, .func (.func 52) #[] #[c0, c1]] w fun e w2 => e = .returned (.int .i64 0) ∧ Post w2 := by
  have hc2 := hA.cell (i := 2) rfl
  have hc9 := hA.cell (i := 9) rfl
  have ht9 := hA.thaw 9
  have ea : (acts : Int) + 1 = ((acts + 1 : Nat) : Int) := by omega
  have HA1 := Hid.of (hA.set 9 (.int .i64 ((acts : Int) + 1)))
  have HG1 := Hid.of (grown_at w D 9 (.int .i64 ((acts : Int) + 1)))
  have HA1' := Hid.of (show At (w.setCell ⟨D, 9, none⟩ (.int .i64 ((acts : Int) + 1))) D 85 [.int .i64 room, .int .i64 used, .bool false, vM, vL, vC, vLo, .int .i64 wrs, .int .i64 trn, .int .i64 ((acts + 1 : Nat) : Int), .int .i64 (u : Int), .int .i64 ft] by rw [← ea]; exact HA1.out)
  have HD := Hid.of (due3 D u (acts + 1) room used wrs trn ft vM vL vC vLo _ HA1'.out hu)
  rw [hq] at HD
  have HC := Hid.of H
  clear hA H HA1 HA1' ea hq
  go_enter Tryz.func45, Tryz.ntmps45
  go_wp2_with fail
  refine HD.out.mono ?_
  rintro e w1 ⟨rfl, a1, g1⟩
  have HCC := Hid.of (HC.out w1 a1 (grown_trans HG1.out g1))
  clear a1 g1 HC
  dsimp only
  clear hc2 hc9 ht9
  go_wp2_with fail
  refine HCC.out.mono ?_
  rintro e w2 ⟨rfl, hp⟩
  have HP := Hid.of hp
  clear hp
  dsimp only
  go_wp2
  go_ret
  exact ⟨rfl, HP.out⟩
set_option maxRecDepth 100000 in
set_option maxHeartbeats 1000000 in
theorem act4_Create (D u acts : Nat) (room used wrs trn ft : Int) (vM vL vC vLo : Value) (c0 c1 : Value) (w : World) (hA : At w D 85 [.int .i64 room, .int .i64 used, .bool false, vM, vL, vC, vLo, .int .i64 wrs, .int .i64 trn, .int .i64 (acts : Int), .int .i64 (u : Int), .int .i64 ft]) (hu : u ≤ 9223372036854775807) (h1 : acts ≤ 4611686018427387904) (hq : (if u = 1 then ft else 0) = 125) (Post : World → Prop) (hP : ∀ w2, Post w2 → ∃ x0 x1 x2 x3 x4 x5 x6 x7 x8 x9 x10 x11, At w2 D 85 [x0, x1, x2, x3, x4, x5, x6, x7, x8, x9, x10, x11])
    (H : ∀ w1, At w1 D 85 [.int .i64 room, .int .i64 used, .bool false, vM, vL, vC, vLo, .int .i64 wrs, .int .i64 trn, .int .i64 ((acts + 1 : Nat) : Int), .int .i64 ((u - 1 : Nat) : Int), .int .i64 ft] → w.grownBy w1 (some D) → Calls Tryz.prog 52 #[c0, c1] w1 fun e w2 => e = .returned (.tuple #[]) ∧ Post w2) :
    Calls Tryz.prog 45 #[pv D, .int .i64 0, .func (.func 52) #[] #[c0, c1]] w fun e w3 => e = .returned (.int .i64 125) ∧ ∃ w2, Post w2 ∧ w3 = w2.setCell ⟨D, 2, none⟩ (.bool true) := by
  have hc2 := hA.cell (i := 2) rfl
  have hc9 := hA.cell (i := 9) rfl
  have ht9 := hA.thaw 9
  have ea : (acts : Int) + 1 = ((acts + 1 : Nat) : Int) := by omega
  have HA1 := Hid.of (hA.set 9 (.int .i64 ((acts : Int) + 1)))
  have HG1 := Hid.of (grown_at w D 9 (.int .i64 ((acts : Int) + 1)))
  have HA1' := Hid.of (show At (w.setCell ⟨D, 9, none⟩ (.int .i64 ((acts : Int) + 1))) D 85 [.int .i64 room, .int .i64 used, .bool false, vM, vL, vC, vLo, .int .i64 wrs, .int .i64 trn, .int .i64 ((acts + 1 : Nat) : Int), .int .i64 (u : Int), .int .i64 ft] by rw [← ea]; exact HA1.out)
  have HD := Hid.of (due3 D u (acts + 1) room used wrs trn ft vM vL vC vLo _ HA1'.out hu)
  rw [hq] at HD
  have HC := Hid.of H
  clear hA H HA1 HA1' ea hq
  go_enter Tryz.func45, Tryz.ntmps45
  go_wp2_with fail
  refine HD.out.mono ?_
  rintro e w1 ⟨rfl, a1, g1⟩
  have HCC := Hid.of (HC.out w1 a1 (grown_trans HG1.out g1))
  clear a1 g1 HC
  dsimp only
  clear hc2 hc9 ht9
  go_wp2_with fail
  refine HCC.out.mono ?_
  rintro e w2 ⟨rfl, hp⟩
  have HP := Hid.of hp
  obtain ⟨x0, x1, x2, x3, x4, x5, x6, x7, x8, x9, x10, x11, hx⟩ := hP w2 hp
  have c2 := hx.cell (i := 2) rfl
  have t2 := hx.thaw 2
  clear hp hx
  dsimp only
  go_wp2
  go_ret
  exact ⟨rfl, _, HP.out, rfl⟩
set_option maxRecDepth 100000 in
set_option maxHeartbeats 1000000 in
theorem act3_Write (D u acts : Nat) (room used wrs trn ft : Int) (vM vL vC vLo : Value) (c0 c1 c2 c3 : Value) (w : World) (hA : At w D 85 [.int .i64 room, .int .i64 used, .bool false, vM, vL, vC, vLo, .int .i64 wrs, .int .i64 trn, .int .i64 (acts : Int), .int .i64 (u : Int), .int .i64 ft]) (hu : u ≤ 9223372036854775807) (h1 : acts ≤ 4611686018427387904) (hq : (if u = 1 then ft else 0) = 0) (Post : World → Prop)
    (H : ∀ w1, At w1 D 85 [.int .i64 room, .int .i64 used, .bool false, vM, vL, vC, vLo, .int .i64 wrs, .int .i64 trn, .int .i64 ((acts + 1 : Nat) : Int), .int .i64 ((u - 1 : Nat) : Int), .int .i64 ft] → w.grownBy w1 (some D) → Calls Tryz.prog 57 #[c0, c1, c2, c3] w1 fun e w2 => e = .returned (.tuple #[]) ∧ Post w2) :
    Calls Tryz.prog 45 #[pv D, .int .i64 0, .func (.func 57) #[] #[c0, c1, c2, c3]] w fun e w2 => e = .returned (.int .i64 0) ∧ Post w2 := by
  have hc2 := hA.cell (i := 2) rfl
  have hc9 := hA.cell (i := 9) rfl
  have ht9 := hA.thaw 9
  have ea : (acts : Int) + 1 = ((acts + 1 : Nat) : Int) := by omega
  have HA1 := Hid.of (hA.set 9 (.int .i64 ((acts : Int) + 1)))
  have HG1 := Hid.of (grown_at w D 9 (.int .i64 ((acts : Int) + 1)))
  have HA1' := Hid.of (show At (w.setCell ⟨D, 9, none⟩ (.int .i64 ((acts : Int) + 1))) D 85 [.int .i64 room, .int .i64 used, .bool false, vM, vL, vC, vLo, .int .i64 wrs, .int .i64 trn, .int .i64 ((acts + 1 : Nat) : Int), .int .i64 (u : Int), .int .i64 ft] by rw [← ea]; exact HA1.out)
  have HD := Hid.of (due3 D u (acts + 1) room used wrs trn ft vM vL vC vLo _ HA1'.out hu)
  rw [hq] at HD
  have HC := Hid.of H
  clear hA H HA1 HA1' ea hq
  go_enter Tryz.func45, Tryz.ntmps45
  go_wp2_with fail
  refine HD.out.mono ?_
  rintro e w1 ⟨rfl, a1, g1⟩
  have HCC := Hid.of (HC.out w1 a1 (grown_trans HG1.out g1))
  clear a1 g1 HC
  dsimp only
  clear hc2 hc9 ht9
  go_wp2_with fail
  refine HCC.out.mono ?_
  rintro e w2 ⟨rfl, hp⟩
  have HP := Hid.of hp
  clear hp
  dsimp only
  go_wp2
  go_ret
  exact ⟨rfl, HP.out⟩
set_option maxRecDepth 100000 in
set_option maxHeartbeats 1000000 in
theorem act4_Write (D u acts : Nat) (room used wrs trn ft : Int) (vM vL vC vLo : Value) (c0 c1 c2 c3 : Value) (w : World) (hA : At w D 85 [.int .i64 room, .int .i64 used, .bool false, vM, vL, vC, vLo, .int .i64 wrs, .int .i64 trn, .int .i64 (acts : Int), .int .i64 (u : Int), .int .i64 ft]) (hu : u ≤ 9223372036854775807) (h1 : acts ≤ 4611686018427387904) (hq : (if u = 1 then ft else 0) = 125) (Post : World → Prop) (hP : ∀ w2, Post w2 → ∃ x0 x1 x2 x3 x4 x5 x6 x7 x8 x9 x10 x11, At w2 D 85 [x0, x1, x2, x3, x4, x5, x6, x7, x8, x9, x10, x11])
    (H : ∀ w1, At w1 D 85 [.int .i64 room, .int .i64 used, .bool false, vM, vL, vC, vLo, .int .i64 wrs, .int .i64 trn, .int .i64 ((acts + 1 : Nat) : Int), .int .i64 ((u - 1 : Nat) : Int), .int .i64 ft] → w.grownBy w1 (some D) → Calls Tryz.prog 57 #[c0, c1, c2, c3] w1 fun e w2 => e = .returned (.tuple #[]) ∧ Post w2) :
    Calls Tryz.prog 45 #[pv D, .int .i64 0, .func (.func 57) #[] #[c0, c1, c2, c3]] w fun e w3 => e = .returned (.int .i64 125) ∧ ∃ w2, Post w2 ∧ w3 = w2.setCell ⟨D, 2, none⟩ (.bool true) := by
  have hc2 := hA.cell (i := 2) rfl
  have hc9 := hA.cell (i := 9) rfl
  have ht9 := hA.thaw 9
  have ea : (acts : Int) + 1 = ((acts + 1 : Nat) : Int) := by omega
  have HA1 := Hid.of (hA.set 9 (.int .i64 ((acts : Int) + 1)))
  have HG1 := Hid.of (grown_at w D 9 (.int .i64 ((acts : Int) + 1)))
  have HA1' := Hid.of (show At (w.setCell ⟨D, 9, none⟩ (.int .i64 ((acts : Int) + 1))) D 85 [.int .i64 room, .int .i64 used, .bool false, vM, vL, vC, vLo, .int .i64 wrs, .int .i64 trn, .int .i64 ((acts + 1 : Nat) : Int), .int .i64 (u : Int), .int .i64 ft] by rw [← ea]; exact HA1.out)
  have HD := Hid.of (due3 D u (acts + 1) room used wrs trn ft vM vL vC vLo _ HA1'.out hu)
  rw [hq] at HD
  have HC := Hid.of H
  clear hA H HA1 HA1' ea hq
  go_enter Tryz.func45, Tryz.ntmps45
  go_wp2_with fail
  refine HD.out.mono ?_
  rintro e w1 ⟨rfl, a1, g1⟩
  have HCC := Hid.of (HC.out w1 a1 (grown_trans HG1.out g1))
  clear a1 g1 HC
  dsimp only
  clear hc2 hc9 ht9
  go_wp2_with fail
  refine HCC.out.mono ?_
  rintro e w2 ⟨rfl, hp⟩
  have HP := Hid.of hp
  obtain ⟨x0, x1, x2, x3, x4, x5, x6, x7, x8, x9, x10, x11, hx⟩ := hP w2 hp
  have c2 := hx.cell (i := 2) rfl
  have t2 := hx.thaw 2
  clear hp hx
  dsimp only
  go_wp2
  go_ret
  exact ⟨rfl, _, HP.out, rfl⟩
set_option maxRecDepth 100000 in
set_option maxHeartbeats 1000000 in
theorem act3_Rename (D u acts : Nat) (room used wrs trn ft : Int) (vM vL vC vLo : Value) (c0 c1 c2 : Value) (w : World) (hA : At w D 85 [.int .i64 room, .int .i64 used, .bool false, vM, vL, vC, vLo, .int .i64 wrs, .int .i64 trn, .int .i64 (acts : Int), .int .i64 (u : Int), .int .i64 ft]) (hu : u ≤ 9223372036854775807) (h1 : acts ≤ 4611686018427387904) (hq : (if u = 1 then ft else 0) = 0) (Post : World → Prop)
    (H : ∀ w1, At w1 D 85 [.int .i64 room, .int .i64 used, .bool false, vM, vL, vC, vLo, .int .i64 wrs, .int .i64 trn, .int .i64 ((acts + 1 : Nat) : Int), .int .i64 ((u - 1 : Nat) : Int), .int .i64 ft] → w.grownBy w1 (some D) → Calls Tryz.prog 59 #[c0, c1, c2] w1 fun e w2 => e = .returned (.tuple #[]) ∧ Post w2) :
    Calls Tryz.prog 45 #[pv D, .int .i64 0, .func (.func 59) #[] #[c0, c1, c2]] w fun e w2 => e = .returned (.int .i64 0) ∧ Post w2 := by
  have hc2 := hA.cell (i := 2) rfl
  have hc9 := hA.cell (i := 9) rfl
  have ht9 := hA.thaw 9
  have ea : (acts : Int) + 1 = ((acts + 1 : Nat) : Int) := by omega
  have HA1 := Hid.of (hA.set 9 (.int .i64 ((acts : Int) + 1)))
  have HG1 := Hid.of (grown_at w D 9 (.int .i64 ((acts : Int) + 1)))
  have HA1' := Hid.of (show At (w.setCell ⟨D, 9, none⟩ (.int .i64 ((acts : Int) + 1))) D 85 [.int .i64 room, .int .i64 used, .bool false, vM, vL, vC, vLo, .int .i64 wrs, .int .i64 trn, .int .i64 ((acts + 1 : Nat) : Int), .int .i64 (u : Int), .int .i64 ft] by rw [← ea]; exact HA1.out)
  have HD := Hid.of (due3 D u (acts + 1) room used wrs trn ft vM vL vC vLo _ HA1'.out hu)
  rw [hq] at HD
  have HC := Hid.of H
  clear hA H HA1 HA1' ea hq
  go_enter Tryz.func45, Tryz.ntmps45
  go_wp2_with fail
  refine HD.out.mono ?_
  rintro e w1 ⟨rfl, a1, g1⟩
  have HCC := Hid.of (HC.out w1 a1 (grown_trans HG1.out g1))
  clear a1 g1 HC
  dsimp only
  clear hc2 hc9 ht9
  go_wp2_with fail
  refine HCC.out.mono ?_
  rintro e w2 ⟨rfl, hp⟩
  have HP := Hid.of hp
  clear hp
  dsimp only
  go_wp2
  go_ret
  exact ⟨rfl, HP.out⟩
set_option maxRecDepth 100000 in
set_option maxHeartbeats 1000000 in
theorem act4_Rename (D u acts : Nat) (room used wrs trn ft : Int) (vM vL vC vLo : Value) (c0 c1 c2 : Value) (w : World) (hA : At w D 85 [.int .i64 room, .int .i64 used, .bool false, vM, vL, vC, vLo, .int .i64 wrs, .int .i64 trn, .int .i64 (acts : Int), .int .i64 (u : Int), .int .i64 ft]) (hu : u ≤ 9223372036854775807) (h1 : acts ≤ 4611686018427387904) (hq : (if u = 1 then ft else 0) = 125) (Post : World → Prop) (hP : ∀ w2, Post w2 → ∃ x0 x1 x2 x3 x4 x5 x6 x7 x8 x9 x10 x11, At w2 D 85 [x0, x1, x2, x3, x4, x5, x6, x7, x8, x9, x10, x11])
    (H : ∀ w1, At w1 D 85 [.int .i64 room, .int .i64 used, .bool false, vM, vL, vC, vLo, .int .i64 wrs, .int .i64 trn, .int .i64 ((acts + 1 : Nat) : Int), .int .i64 ((u - 1 : Nat) : Int), .int .i64 ft] → w.grownBy w1 (some D) → Calls Tryz.prog 59 #[c0, c1, c2] w1 fun e w2 => e = .returned (.tuple #[]) ∧ Post w2) :
    Calls Tryz.prog 45 #[pv D, .int .i64 0, .func (.func 59) #[] #[c0, c1, c2]] w fun e w3 => e = .returned (.int .i64 125) ∧ ∃ w2, Post w2 ∧ w3 = w2.setCell ⟨D, 2, none⟩ (.bool true) := by
  have hc2 := hA.cell (i := 2) rfl
  have hc9 := hA.cell (i := 9) rfl
  have ht9 := hA.thaw 9
  have ea : (acts : Int) + 1 = ((acts + 1 : Nat) : Int) := by omega
  have HA1 := Hid.of (hA.set 9 (.int .i64 ((acts : Int) + 1)))
  have HG1 := Hid.of (grown_at w D 9 (.int .i64 ((acts : Int) + 1)))
  have HA1' := Hid.of (show At (w.setCell ⟨D, 9, none⟩ (.int .i64 ((acts : Int) + 1))) D 85 [.int .i64 room, .int .i64 used, .bool false, vM, vL, vC, vLo, .int .i64 wrs, .int .i64 trn, .int .i64 ((acts + 1 : Nat) : Int), .int .i64 (u : Int), .int .i64 ft] by rw [← ea]; exact HA1.out)
  have HD := Hid.of (due3 D u (acts + 1) room used wrs trn ft vM vL vC vLo _ HA1'.out hu)
  rw [hq] at HD
  have HC := Hid.of H
  clear hA H HA1 HA1' ea hq
  go_enter Tryz.func45, Tryz.ntmps45
  go_wp2_with fail
  refine HD.out.mono ?_
  rintro e w1 ⟨rfl, a1, g1⟩
  have HCC := Hid.of (HC.out w1 a1 (grown_trans HG1.out g1))
  clear a1 g1 HC
  dsimp only
  clear hc2 hc9 ht9
  go_wp2_with fail
  refine HCC.out.mono ?_
  rintro e w2 ⟨rfl, hp⟩
  have HP := Hid.of hp
  obtain ⟨x0, x1, x2, x3, x4, x5, x6, x7, x8, x9, x10, x11, hx⟩ := hP w2 hp
  have c2 := hx.cell (i := 2) rfl
  have t2 := hx.thaw 2
  clear hp hx
  dsimp only
  go_wp2
  go_ret
  exact ⟨rfl, _, HP.out, rfl⟩
set_option maxRecDepth 100000 in
set_option maxHeartbeats 1000000 in
theorem act3_Remove (D u acts : Nat) (room used wrs trn ft : Int) (vM vL vC vLo : Value) (c0 c1 : Value) (w : World) (hA : At w D 85 [.int .i64 room, .int .i64 used, .bool false, vM, vL, vC, vLo, .int .i64 wrs, .int .i64 trn, .int .i64 (acts : Int), .int .i64 (u : Int), .int .i64 ft]) (hu : u ≤ 9223372036854775807) (h1 : acts ≤ 4611686018427387904) (hq : (if u = 1 then ft else 0) = 0) (Post : World → Prop)
    (H : ∀ w1, At w1 D 85 [.int .i64 room, .int .i64 used, .bool false, vM, vL, vC, vLo, .int .i64 wrs, .int .i64 trn, .int .i64 ((acts + 1 : Nat) : Int), .int .i64 ((u - 1 : Nat) : Int), .int .i64 ft] → w.grownBy w1 (some D) → Calls Tryz.prog 99 #[c0, c1] w1 fun e w2 => e = .returned (.tuple #[]) ∧ Post w2) :
    Calls Tryz.prog 45 #[pv D, .int .i64 0, .func (.func 99) #[] #[c0, c1]] w fun e w2 => e = .returned (.int .i64 0) ∧ Post w2 := by
  have hc2 := hA.cell (i := 2) rfl
  have hc9 := hA.cell (i := 9) rfl
  have ht9 := hA.thaw 9
  have ea : (acts : Int) + 1 = ((acts + 1 : Nat) : Int) := by omega
  have HA1 := Hid.of (hA.set 9 (.int .i64 ((acts : Int) + 1)))
  have HG1 := Hid.of (grown_at w D 9 (.int .i64 ((acts : Int) + 1)))
  have HA1' := Hid.of (show At (w.setCell ⟨D, 9, none⟩ (.int .i64 ((acts : Int) + 1))) D 85 [.int .i64 room, .int .i64 used, .bool false, vM, vL, vC, vLo, .int .i64 wrs, .int .i64 trn, .int .i64 ((acts + 1 : Nat) : Int), .int .i64 (u : Int), .int .i64 ft] by rw [← ea]; exact HA1.out)
  have HD := Hid.of (due3 D u (acts + 1) room used wrs trn ft vM vL vC vLo _ HA1'.out hu)
  rw [hq] at HD
  have HC := Hid.of H
  clear hA H HA1 HA1' ea hq
  go_enter Tryz.func45, Tryz.ntmps45
  go_wp2_with fail
  refine HD.out.mono ?_
  rintro e w1 ⟨rfl, a1, g1⟩
  have HCC := Hid.of (HC.out w1 a1 (grown_trans HG1.out g1))
  clear a1 g1 HC
  dsimp only
  clear hc2 hc9 ht9
  go_wp2_with fail
  refine HCC.out.mono ?_
  rintro e w2 ⟨rfl, hp⟩
  have HP := Hid.of hp
  clear hp
  dsimp only
  go_wp2
  go_ret
  exact ⟨rfl, HP.out⟩
set_option maxRecDepth 100000 in
set_option maxHeartbeats 1000000 in
theorem act4_Remove (D u acts : Nat) (room used wrs trn ft : Int) (vM vL vC vLo : Value) (c0 c1 : Value) (w : World) (hA : At w D 85 [.int .i64 room, .int .i64 used, .bool false, vM, vL, vC, vLo, .int .i64 wrs, .int .i64 trn, .int .i64 (acts : Int), .int .i64 (u : Int), .int .i64 ft]) (hu : u ≤ 9223372036854775807) (h1 : acts ≤ 4611686018427387904) (hq : (if u = 1 then ft else 0) = 125) (Post : World → Prop) (hP : ∀ w2, Post w2 → ∃ x0 x1 x2 x3 x4 x5 x6 x7 x8 x9 x10 x11, At w2 D 85 [x0, x1, x2, x3, x4, x5, x6, x7, x8, x9, x10, x11])
    (H : ∀ w1, At w1 D 85 [.int .i64 room, .int .i64 used, .bool false, vM, vL, vC, vLo, .int .i64 wrs, .int .i64 trn, .int .i64 ((acts + 1 : Nat) : Int), .int .i64 ((u - 1 : Nat) : Int), .int .i64 ft] → w.grownBy w1 (some D) → Calls Tryz.prog 99 #[c0, c1] w1 fun e w2 => e = .returned (.tuple #[]) ∧ Post w2) :
    Calls Tryz.prog 45 #[pv D, .int .i64 0, .func (.func 99) #[] #[c0, c1]] w fun e w3 => e = .returned (.int .i64 125) ∧ ∃ w2, Post w2 ∧ w3 = w2.setCell ⟨D, 2, none⟩ (.bool true) := by
  have hc2 := hA.cell (i := 2) rfl
  have hc9 := hA.cell (i := 9) rfl
  have ht9 := hA.thaw 9
  have ea : (acts : Int) + 1 = ((acts + 1 : Nat) : Int) := by omega
  have HA1 := Hid.of (hA.set 9 (.int .i64 ((acts : Int) + 1)))
  have HG1 := Hid.of (grown_at w D 9 (.int .i64 ((acts : Int) + 1)))
  have HA1' := Hid.of (show At (w.setCell ⟨D, 9, none⟩ (.int .i64 ((acts : Int) + 1))) D 85 [.int .i64 room, .int .i64 used, .bool false, vM, vL, vC, vLo, .int .i64 wrs, .int .i64 trn, .int .i64 ((acts + 1 : Nat) : Int), .int .i64 (u : Int), .int .i64 ft] by rw [← ea]; exact HA1.out)
  have HD := Hid.of (due3 D u (acts + 1) room used wrs trn ft vM vL vC vLo _ HA1'.out hu)
  rw [hq] at HD
  have HC := Hid.of H
  clear hA H HA1 HA1' ea hq
  go_enter Tryz.func45, Tryz.ntmps45
  go_wp2_with fail
  refine HD.out.mono ?_
  rintro e w1 ⟨rfl, a1, g1⟩
  have HCC := Hid.of (HC.out w1 a1 (grown_trans HG1.out g1))
  clear a1 g1 HC
  dsimp only
  clear hc2 hc9 ht9
  go_wp2_with fail
  refine HCC.out.mono ?_
  rintro e w2 ⟨rfl, hp⟩
  have HP := Hid.of hp
  obtain ⟨x0, x1, x2, x3, x4, x5, x6, x7, x8, x9, x10, x11, hx⟩ := hP w2 hp
  have c2 := hx.cell (i := 2) rfl
  have t2 := hx.thaw 2
  clear hp hx
  dsimp only
  go_wp2
  go_ret
  exact ⟨rfl, _, HP.out, rfl⟩
set_option maxRecDepth 100000 in
set_option maxHeartbeats 1000000 in
theorem act3_Sync (D u acts : Nat) (room used wrs trn ft : Int) (vM vL vC vLo : Value) (c0 c1 : Value) (w : World) (hA : At w D 85 [.int .i64 room, .int .i64 used, .bool false, vM, vL, vC, vLo, .int .i64 wrs, .int .i64 trn, .int .i64 (acts : Int), .int .i64 (u : Int), .int .i64 ft]) (hu : u ≤ 9223372036854775807) (h1 : acts ≤ 4611686018427387904) (hq : (if u = 1 then ft else 0) = 0) (Post : World → Prop)
    (H : ∀ w1, At w1 D 85 [.int .i64 room, .int .i64 used, .bool false, vM, vL, vC, vLo, .int .i64 wrs, .int .i64 trn, .int .i64 ((acts + 1 : Nat) : Int), .int .i64 ((u - 1 : Nat) : Int), .int .i64 ft] → w.grownBy w1 (some D) → Calls Tryz.prog 46 #[c0, c1] w1 fun e w2 => e = .returned (.tuple #[]) ∧ Post w2) :
    Calls Tryz.prog 45 #[pv D, .int .i64 0, .func (.func 46) #[] #[c0, c1]] w fun e w2 => e = .returned (.int .i64 0) ∧ Post w2 := by
  have hc2 := hA.cell (i := 2) rfl
  have hc9 := hA.cell (i := 9) rfl
  have ht9 := hA.thaw 9
  have ea : (acts : Int) + 1 = ((acts + 1 : Nat) : Int) := by omega
  have HA1 := Hid.of (hA.set 9 (.int .i64 ((acts : Int) + 1)))
  have HG1 := Hid.of (grown_at w D 9 (.int .i64 ((acts : Int) + 1)))
  have HA1' := Hid.of (show At (w.setCell ⟨D, 9, none⟩ (.int .i64 ((acts : Int) + 1))) D 85 [.int .i64 room, .int .i64 used, .bool false, vM, vL, vC, vLo, .int .i64 wrs, .int .i64 trn, .int .i64 ((acts + 1 : Nat) : Int), .int .i64 (u : Int), .int .i64 ft] by rw [← ea]; exact HA1.out)
  have HD := Hid.of (due3 D u (acts + 1) room used wrs trn ft vM vL vC vLo _ HA1'.out hu)
  rw [hq] at HD
  have HC := Hid.of H
  clear hA H HA1 HA1' ea hq
  go_enter Tryz.func45, Tryz.ntmps45
  go_wp2_with fail
  refine HD.out.mono ?_
  rintro e w1 ⟨rfl, a1, g1⟩
  have HCC := Hid.of (HC.out w1 a1 (grown_trans HG1.out g1))
  clear a1 g1 HC
  dsimp only
  clear hc2 hc9 ht9
  go_wp2_with fail
  refine HCC.out.mono ?_
  rintro e w2 ⟨rfl, hp⟩
  have HP := Hid.of hp
  clear hp
  dsimp only
  go_wp2
  go_ret
  exact ⟨rfl, HP.out⟩
set_option maxRecDepth 100000 in
set_option maxHeartbeats 1000000 in
theorem act4_Sync (D u acts : Nat) (room used wrs trn ft : Int) (vM vL vC vLo : Value) (c0 c1 : Value) (w : World) (hA : At w D 85 [.int .i64 room, .int .i64 used, .bool false, vM, vL, vC, vLo, .int .i64 wrs, .int .i64 trn, .int .i64 (acts : Int), .int .i64 (u : Int), .int .i64 ft]) (hu : u ≤ 9223372036854775807) (h1 : acts ≤ 4611686018427387904) (hq : (if u = 1 then ft else 0) = 125) (Post : World → Prop) (hP : ∀ w2, Post w2 → ∃ x0 x1 x2 x3 x4 x5 x6 x7 x8 x9 x10 x11, At w2 D 85 [x0, x1, x2, x3, x4, x5, x6, x7, x8, x9, x10, x11])
    (H : ∀ w1, At w1 D 85 [.int .i64 room, .int .i64 used, .bool false, vM, vL, vC, vLo, .int .i64 wrs, .int .i64 trn, .int .i64 ((acts + 1 : Nat) : Int), .int .i64 ((u - 1 : Nat) : Int), .int .i64 ft] → w.grownBy w1 (some D) → Calls Tryz.prog 46 #[c0, c1] w1 fun e w2 => e = .returned (.tuple #[]) ∧ Post w2) :
    Calls Tryz.prog 45 #[pv D, .int .i64 0, .func (.func 46) #[] #[c0, c1]] w fun e w3 => e = .returned (.int .i64 125) ∧ ∃ w2, Post w2 ∧ w3 = w2.setCell ⟨D, 2, none⟩ (.bool true) := by
  have hc2 := hA.cell (i := 2) rfl
  have hc9 := hA.cell (i := 9) rfl
  have ht9 := hA.thaw 9
  have ea : (acts : Int) + 1 = ((acts + 1 : Nat) : Int) := by omega
  have HA1 := Hid.of (hA.set 9 (.int .i64 ((acts : Int) + 1)))
  have HG1 := Hid.of (grown_at w D 9 (.int .i64 ((acts : Int) + 1)))
  have HA1' := Hid.of (show At (w.setCell ⟨D, 9, none⟩ (.int .i64 ((acts : Int) + 1))) D 85 [.int .i64 room, .int .i64 used, .bool false, vM, vL, vC, vLo, .int .i64 wrs, .int .i64 trn, .int .i64 ((acts + 1 : Nat) : Int), .int .i64 (u : Int), .int .i64 ft] by rw [← ea]; exact HA1.out)
  have HD := Hid.of (due3 D u (acts + 1) room used wrs trn ft vM vL vC vLo _ HA1'.out hu)
  rw [hq] at HD
  have HC := Hid.of H
  clear hA H HA1 HA1' ea hq
  go_enter Tryz.func45, Tryz.ntmps45
  go_wp2_with fail
  refine HD.out.mono ?_
  rintro e w1 ⟨rfl, a1, g1⟩
  have HCC := Hid.of (HC.out w1 a1 (grown_trans HG1.out g1))
  clear a1 g1 HC
  dsimp only
  clear hc2 hc9 ht9
  go_wp2_with fail
  refine HCC.out.mono ?_
  rintro e w2 ⟨rfl, hp⟩
  have HP := Hid.of hp
  obtain ⟨x0, x1, x2, x3, x4, x5, x6, x7, x8, x9, x10, x11, hx⟩ := hP w2 hp
  have c2 := hx.cell (i := 2) rfl
  have t2 := hx.thaw 2
  clear hp hx
  dsimp only
  go_wp2
  go_ret
  exact ⟨rfl, _, HP.out, rfl⟩
set_option maxRecDepth 100000 in
set_option maxHeartbeats 1000000 in
theorem act3_Names (D u acts : Nat) (room used wrs trn ft : Int) (vM vL vC vLo : Value) (w : World) (hA : At w D 85 [.int .i64 room, .int .i64 used, .bool false, vM, vL, vC, vLo, .int .i64 wrs, .int .i64 trn, .int .i64 (acts : Int), .int .i64 (u : Int), .int .i64 ft]) (hu : u ≤ 9223372036854775807) (h1 : acts ≤ 4611686018427387904) (hq : (if u = 1 then ft else 0) = 0) (Post : World → Prop)
    (H : ∀ w1, At w1 D 85 [.int .i64 room, .int .i64 used, .bool false, vM, vL, vC, vLo, .int .i64 wrs, .int .i64 trn, .int .i64 ((acts + 1 : Nat) : Int), .int .i64 ((u - 1 : Nat) : Int), .int .i64 ft] → w.grownBy w1 (some D) → Calls Tryz.prog 49 #[pv D] w1 fun e w2 => e = .returned (.tuple #[]) ∧ Post w2) :
    Calls Tryz.prog 45 #[pv D, .int .i64 0, .func (.func 49) #[pv D] #[]] w fun e w2 => e = .returned (.int .i64 0) ∧ Post w2 := by
  have hc2 := hA.cell (i := 2) rfl
  have hc9 := hA.cell (i := 9) rfl
  have ht9 := hA.thaw 9
  have ea : (acts : Int) + 1 = ((acts + 1 : Nat) : Int) := by omega
  have HA1 := Hid.of (hA.set 9 (.int .i64 ((acts : Int) + 1)))
  have HG1 := Hid.of (grown_at w D 9 (.int .i64 ((acts : Int) + 1)))
  have HA1' := Hid.of (show At (w.setCell ⟨D, 9, none⟩ (.int .i64 ((acts : Int) + 1))) D 85 [.int .i64 room, .int .i64 used, .bool false, vM, vL, vC, vLo, .int .i64 wrs, .int .i64 trn, .int .i64 ((acts + 1 : Nat) : Int), .int .i64 (u : Int), .int .i64 ft] by rw [← ea]; exact HA1.out)
  have HD := Hid.of (due3 D u (acts + 1) room used wrs trn ft vM vL vC vLo _ HA1'.out hu)
  rw [hq] at HD
  have HC := Hid.of H
  clear hA H HA1 HA1' ea hq
  go_enter Tryz.func45, Tryz.ntmps45
  go_wp2_with fail
  refine HD.out.mono ?_
  rintro e w1 ⟨rfl, a1, g1⟩
  have HCC := Hid.of (HC.out w1 a1 (grown_trans HG1.out g1))
  clear a1 g1 HC
  dsimp only
  clear hc2 hc9 ht9
  go_wp2_with fail
  refine HCC.out.mono ?_
  rintro e w2 ⟨rfl, hp⟩
  have HP := Hid.of hp
  clear hp
  dsimp only
  go_wp2
  go_ret
  exact ⟨rfl, HP.out⟩
set_option maxRecDepth 100000 in
set_option maxHeartbeats 1000000 in
theorem act4_Names (D u acts : Nat) (room used wrs trn ft : Int) (vM vL vC vLo : Value) (w : World) (hA : At w D 85 [.int .i64 room, .int .i64 used, .bool false, vM, vL, vC, vLo, .int .i64 wrs, .int .i64 trn, .int .i64 (acts : Int), .int .i64 (u : Int), .int .i64 ft]) (hu : u ≤ 9223372036854775807) (h1 : acts ≤ 4611686018427387904) (hq : (if u = 1 then ft else 0) = 125) (Post : World → Prop) (hP : ∀ w2, Post w2 → ∃ x0 x1 x2 x3 x4 x5 x6 x7 x8 x9 x10 x11, At w2 D 85 [x0, x1, x2, x3, x4, x5, x6, x7, x8, x9, x10, x11])
    (H : ∀ w1, At w1 D 85 [.int .i64 room, .int .i64 used, .bool false, vM, vL, vC, vLo, .int .i64 wrs, .int .i64 trn, .int .i64 ((acts + 1 : Nat) : Int), .int .i64 ((u - 1 : Nat) : Int), .int .i64 ft] → w.grownBy w1 (some D) → Calls Tryz.prog 49 #[pv D] w1 fun e w2 => e = .returned (.tuple #[]) ∧ Post w2) :
    Calls Tryz.prog 45 #[pv D, .int .i64 0, .func (.func 49) #[pv D] #[]] w fun e w3 => e = .returned (.int .i64 125) ∧ ∃ w2, Post w2 ∧ w3 = w2.setCell ⟨D, 2, none⟩ (.bool true) := by
  have hc2 := hA.cell (i := 2) rfl
  have hc9 := hA.cell (i := 9) rfl
  have ht9 := hA.thaw 9
  have ea : (acts : Int) + 1 = ((acts + 1 : Nat) : Int) := by omega
  have HA1 := Hid.of (hA.set 9 (.int .i64 ((acts : Int) + 1)))
  have HG1 := Hid.of (grown_at w D 9 (.int .i64 ((acts : Int) + 1)))
  have HA1' := Hid.of (show At (w.setCell ⟨D, 9, none⟩ (.int .i64 ((acts : Int) + 1))) D 85 [.int .i64 room, .int .i64 used, .bool false, vM, vL, vC, vLo, .int .i64 wrs, .int .i64 trn, .int .i64 ((acts + 1 : Nat) : Int), .int .i64 (u : Int), .int .i64 ft] by rw [← ea]; exact HA1.out)
  have HD := Hid.of (due3 D u (acts + 1) room used wrs trn ft vM vL vC vLo _ HA1'.out hu)
  rw [hq] at HD
  have HC := Hid.of H
  clear hA H HA1 HA1' ea hq
  go_enter Tryz.func45, Tryz.ntmps45
  go_wp2_with fail
  refine HD.out.mono ?_
  rintro e w1 ⟨rfl, a1, g1⟩
  have HCC := Hid.of (HC.out w1 a1 (grown_trans HG1.out g1))
  clear a1 g1 HC
  dsimp only
  clear hc2 hc9 ht9
  go_wp2_with fail
  refine HCC.out.mono ?_
  rintro e w2 ⟨rfl, hp⟩
  have HP := Hid.of hp
  obtain ⟨x0, x1, x2, x3, x4, x5, x6, x7, x8, x9, x10, x11, hx⟩ := hP w2 hp
  have c2 := hx.cell (i := 2) rfl
  have t2 := hx.thaw 2
  clear hp hx
  dsimp only
  go_wp2
  go_ret
  exact ⟨rfl, _, HP.out, rfl⟩
end Go.Proofs.YtaibjeehjhlicaaGreatDoor
