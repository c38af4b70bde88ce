import Derived.Test.YtaibjeehjhlicaaGreatDoorQaj
namespace Go.Proofs.YtaibjeehjhlicaaGreatDoor
open Go.RowKit Go.Shelf TextNum ModNum
set_option maxRecDepth 100000 in
set_option maxHeartbeats 1000000 in
theorem due_gen (D u acts : Nat) (room used wrs trn ft : Int) (vM vL vC vLo : Value) (w : World) (hA : At w D 85 [.int .i64 room, .int .i64 used, .bool false, vM, vL, vC, vLo, .int .i64 wrs, .int .i64 trn, .int .i64 (acts : Int), .int .i64 (u : Int), .int .i64 ft]) (hu : u ≤ 4611686018427387904) :
    Calls Tryz.prog 93 #[pv D] w fun e w' => e = .returned (.int .i64 (if u = 1 then ft else 0)) ∧ At w' D 85 [.int .i64 room, .int .i64 used, .bool false, vM, vL, vC, vLo, .int .i64 wrs, .int .i64 trn, .int .i64 (acts : Int), .int .i64 ((u - 1 : Nat) : Int), .int .i64 ft] ∧ w.grownBy w' (some D) := by
  have hc := hA.cell (i := 10) rfl
  have hf := hA.cell (i := 11) rfl
  have ht := hA.thaw 10
  by_cases h0 : u = 0
  · subst h0
    have HA := Hid.of hA
    clear hA
    go_enter Tryz.func93, Tryz.ntmps93
    go_wp2
    go_ret
    exact ⟨rfl, HA.out, grown_refl _ _⟩
  · obtain ⟨v, rfl⟩ : ∃ v, u = v + 1 := ⟨u - 1, by omega⟩
    have HA1 := Hid.of (hA.set 10 (.int .i64 ((v : Nat) : Int)))
    have HG1 := Hid.of (grown_at w D 10 (.int .i64 ((v : Nat) : Int)))
    have c1 := HA1.out.cell (i := 10) rfl
    have c2 := HA1.out.cell (i := 11) rfl
    have e1 : (((v + 1 : Nat) : Int) == 0) = false := by rw [beq_eq_false_iff_ne]; omega
    have e2 : ((v + 1 : Nat) : Int) - 1 = (v : Int) := by omega
    have hsub : v + 1 - 1 = v := rfl
    clear hA
    by_cases hv : v = 0
    · subst hv
      go_enter Tryz.func93, Tryz.ntmps93
      go_wp2
      go_ret
      exact ⟨rfl, HA1.out, HG1.out⟩
    · have e3 : (0 : Int) < (v : Int) := by omega
      go_enter Tryz.func93, Tryz.ntmps93
      go_wp2
      go_ret
      exact ⟨rfl, HA1.out, HG1.out⟩
set_option maxRecDepth 100000 in
set_option maxHeartbeats 1000000 in
theorem act_err2 (D u acts : Nat) (room used wrs trn ft : Int) (vM vL vC vLo : Value) (fv : Value) (own : Int) (w : World) (hA : At w D 85 [.int .i64 room, .int .i64 used, .bool false, vM, vL, vC, vLo, .int .i64 wrs, .int .i64 trn, .int .i64 (acts : Int), .int .i64 (u : Int), .int .i64 ft]) (hu : u ≤ 4611686018427387904) (h1 : acts ≤ 4611686018427387904) (ho : own ≠ 0) :
    Calls Tryz.prog 45 #[pv D, .int .i64 own, fv] w fun e w1 => e = .returned (.int .i64 own) ∧ At w1 D 85 [.int .i64 room, .int .i64 used, .bool false, vM, vL, vC, vLo, .int .i64 wrs, .int .i64 trn, .int .i64 ((acts + 1 : Nat) : Int), .int .i64 ((u - 1 : Nat) : Int), .int .i64 ft] ∧ w.grownBy w1 (some D) := by
  have hc2 := hA.cell (i := 2) rfl
  have hc9 := hA.cell (i := 9) rfl
  have ht9 := hA.thaw 9
  have ea : (acts : Int) + 1 = ((acts + 1 : Nat) : Int) := by omega
  have HA1 := Hid.of (hA.set 9 (.int .i64 ((acts : Int) + 1)))
  have HG1 := Hid.of (grown_at w D 9 (.int .i64 ((acts : Int) + 1)))
  have HA1' := Hid.of (show At (w.setCell ⟨D, 9, none⟩ (.int .i64 ((acts : Int) + 1))) D 85 [.int .i64 room, .int .i64 used, .bool false, vM, vL, vC, vLo, .int .i64 wrs, .int .i64 trn, .int .i64 ((acts + 1 : Nat) : Int), .int .i64 (u : Int), .int .i64 ft] by rw [← ea]; exact HA1.out)
  have HD := Hid.of (due_gen D u (acts + 1) room used wrs trn ft vM vL vC vLo _ HA1'.out hu)
  have hoz : (own != 0) = true := by rw [bne_iff_ne]; exact ho
  clear hA ho HA1 ea HA1'
  generalize (if u = 1 then ft else 0) = q at HD
  generalize u - 1 = u2 at *
  generalize acts + 1 = a2 at *
  go_enter Tryz.func45, Tryz.ntmps45
  go_wp2_with fail
  refine HD.out.mono ?_
  rintro e w1 ⟨rfl, a1, g1⟩
  have HA2 := Hid.of a1
  have HG2 := Hid.of (grown_trans HG1.out g1)
  clear a1 g1
  dsimp only
  clear hc2 hc9 ht9
  go_wp2
  go_ret
  exact ⟨rfl, HA2.out, HG2.out⟩
set_option maxRecDepth 100000 in
set_option maxHeartbeats 1000000 in
theorem act2_Create1 (D u acts : Nat) (room used wrs trn ft : Int) (vM vL vC vLo : Value) (c0 c1 : Value) (w : World) (hA : At w D 85 [.int .i64 room, .int .i64 used, .bool false, vM, vL, vC, vLo, .int .i64 wrs, .int .i64 trn, .int .i64 (acts : Int), .int .i64 (u : Int), .int .i64 ft]) (hu : u ≤ 4611686018427387904) (hu1 : u ≠ 1) (h1 : acts ≤ 4611686018427387904) (Post : World → Prop)
    (H : ∀ w1, At w1 D 85 [.int .i64 room, .int .i64 used, .bool false, vM, vL, vC, vLo, .int .i64 wrs, .int .i64 trn, .int .i64 ((acts + 1 : Nat) : Int), .int .i64 ((u - 1 : Nat) : Int), .int .i64 ft] → w.grownBy w1 (some D) → Calls Tryz.prog 52 #[c0, c1] w1 fun e w2 => e = .returned (.tuple #[]) ∧ Post w2) :
    Calls Tryz.prog 45 #[pv D, .int .i64 0, .func (.func 52) #[] #[c0, c1]] w fun e w2 => e = .returned (.int .i64 0) ∧ Post w2 := by
  have hc2 := hA.cell (i := 2) rfl
  have hc9 := hA.cell (i := 9) rfl
  have ht9 := hA.thaw 9
  have ea : (acts : Int) + 1 = ((acts + 1 : Nat) : Int) := by omega
  have HA1 := Hid.of (hA.set 9 (.int .i64 ((acts : Int) + 1)))
  have HG1 := Hid.of (grown_at w D 9 (.int .i64 ((acts : Int) + 1)))
  have HA1' := Hid.of (show At (w.setCell ⟨D, 9, none⟩ (.int .i64 ((acts : Int) + 1))) D 85 [.int .i64 room, .int .i64 used, .bool false, vM, vL, vC, vLo, .int .i64 wrs, .int .i64 trn, .int .i64 ((acts + 1 : Nat) : Int), .int .i64 (u : Int), .int .i64 ft] by rw [← ea]; exact HA1.out)
  have HD := Hid.of (due_gen D u (acts + 1) room used wrs trn ft vM vL vC vLo _ HA1'.out hu)
  rw [if_neg hu1] at HD
  have HC := Hid.of H
  clear hA H HA1 HA1' ea hu1
  go_enter Tryz.func45, Tryz.ntmps45
  go_wp2_with fail
  refine HD.out.mono ?_
  rintro e w1 ⟨rfl, a1, g1⟩
  have HCC := Hid.of (HC.out w1 a1 (grown_trans HG1.out g1))
  clear a1 g1 HC
  dsimp only
  clear hc2 hc9 ht9
  go_wp2_with fail
  refine HCC.out.mono ?_
  rintro e w2 ⟨rfl, hp⟩
  have HP := Hid.of hp
  clear hp
  dsimp only
  go_wp2
  go_ret
  exact ⟨rfl, HP.out⟩
set_option maxRecDepth 100000 in
set_option maxHeartbeats 1000000 in
theorem act2_Write1 (D u acts : Nat) (room used wrs trn ft : Int) (vM vL vC vLo : Value) (c0 c1 c2 c3 : Value) (w : World) (hA : At w D 85 [.int .i64 room, .int .i64 used, .bool false, vM, vL, vC, vLo, .int .i64 wrs, .int .i64 trn, .int .i64 (acts : Int), .int .i64 (u : Int), .int .i64 ft]) (hu : u ≤ 4611686018427387904) (hu1 : u ≠ 1) (h1 : acts ≤ 4611686018427387904) (Post : World → Prop)
    (H : ∀ w1, At w1 D 85 [.int .i64 room, .int .i64 used, .bool false, vM, vL, vC, vLo, .int .i64 wrs, .int .i64 trn, .int .i64 ((acts + 1 : Nat) : Int), .int .i64 ((u - 1 : Nat) : Int), .int .i64 ft] → w.grownBy w1 (some D) → Calls Tryz.prog 57 #[c0, c1, c2, c3] w1 fun e w2 => e = .returned (.tuple #[]) ∧ Post w2) :
    Calls Tryz.prog 45 #[pv D, .int .i64 0, .func (.func 57) #[] #[c0, c1, c2, c3]] w fun e w2 => e = .returned (.int .i64 0) ∧ Post w2 := by
  have hc2 := hA.cell (i := 2) rfl
  have hc9 := hA.cell (i := 9) rfl
  have ht9 := hA.thaw 9
  have ea : (acts : Int) + 1 = ((acts + 1 : Nat) : Int) := by omega
  have HA1 := Hid.of (hA.set 9 (.int .i64 ((acts : Int) + 1)))
  have HG1 := Hid.of (grown_at w D 9 (.int .i64 ((acts : Int) + 1)))
  have HA1' := Hid.of (show At (w.setCell ⟨D, 9, none⟩ (.int .i64 ((acts : Int) + 1))) D 85 [.int .i64 room, .int .i64 used, .bool false, vM, vL, vC, vLo, .int .i64 wrs, .int .i64 trn, .int .i64 ((acts + 1 : Nat) : Int), .int .i64 (u : Int), .int .i64 ft] by rw [← ea]; exact HA1.out)
  have HD := Hid.of (due_gen D u (acts + 1) room used wrs trn ft vM vL vC vLo _ HA1'.out hu)
  rw [if_neg hu1] at HD
  have HC := Hid.of H
  clear hA H HA1 HA1' ea hu1
  go_enter Tryz.func45, Tryz.ntmps45
  go_wp2_with fail
  refine HD.out.mono ?_
  rintro e w1 ⟨rfl, a1, g1⟩
  have HCC := Hid.of (HC.out w1 a1 (grown_trans HG1.out g1))
  clear a1 g1 HC
  dsimp only
  clear hc2 hc9 ht9
  go_wp2_with fail
  refine HCC.out.mono ?_
  rintro e w2 ⟨rfl, hp⟩
  have HP := Hid.of hp
  clear hp
  dsimp only
  go_wp2
  go_ret
  exact ⟨rfl, HP.out⟩
set_option maxRecDepth 100000 in
set_option maxHeartbeats 1000000 in
theorem act2_Rename1 (D u acts : Nat) (room used wrs trn ft : Int) (vM vL vC vLo : Value) (c0 c1 c2 : Value) (w : World) (hA : At w D 85 [.int .i64 room, .int .i64 used, .bool false, vM, vL, vC, vLo, .int .i64 wrs, .int .i64 trn, .int .i64 (acts : Int), .int .i64 (u : Int), .int .i64 ft]) (hu : u ≤ 4611686018427387904) (hu1 : u ≠ 1) (h1 : acts ≤ 4611686018427387904) (Post : World → Prop)
    (H : ∀ w1, At w1 D 85 [.int .i64 room, .int .i64 used, .bool false, vM, vL, vC, vLo, .int .i64 wrs, .int .i64 trn, .int .i64 ((acts + 1 : Nat) : Int), .int .i64 ((u - 1 : Nat) : Int), .int .i64 ft] → w.grownBy w1 (some D) → Calls Tryz.prog 59 #[c0, c1, c2] w1 fun e w2 => e = .returned (.tuple #[]) ∧ Post w2) :
    Calls Tryz.prog 45 #[pv D, .int .i64 0, .func (.func 59) #[] #[c0, c1, c2]] w fun e w2 => e = .returned (.int .i64 0) ∧ Post w2 := by
  have hc2 := hA.cell (i := 2) rfl
  have hc9 := hA.cell (i := 9) rfl
  have ht9 := hA.thaw 9
  have ea : (acts : Int) + 1 = ((acts + 1 : Nat) : Int) := by omega
  have HA1 := Hid.of (hA.set 9 (.int .i64 ((acts : Int) + 1)))
  have HG1 := Hid.of (grown_at w D 9 (.int .i64 ((acts : Int) + 1)))
  have HA1' := Hid.of (show At (w.setCell ⟨D, 9, none⟩ (.int .i64 ((acts : Int) + 1))) D 85 [.int .i64 room, .int .i64 used, .bool false, vM, vL, vC, vLo, .int .i64 wrs, .int .i64 trn, .int .i64 ((acts + 1 : Nat) : Int), .int .i64 (u : Int), .int .i64 ft] by rw [← ea]; exact HA1.out)
  have HD := Hid.of (due_gen D u (acts + 1) room used wrs trn ft vM vL vC vLo _ HA1'.out hu)
  rw [if_neg hu1] at HD
  have HC := Hid.of H
  clear hA H HA1 HA1' ea hu1
  go_enter Tryz.func45, Tryz.ntmps45
  go_wp2_with fail
  refine HD.out.mono ?_
  rintro e w1 ⟨rfl, a1, g1⟩
  have HCC := Hid.of (HC.out w1 a1 (grown_trans HG1.out g1))
  clear a1 g1 HC
  dsimp only
  clear hc2 hc9 ht9
  go_wp2_with fail
  refine HCC.out.mono ?_
  rintro e w2 ⟨rfl, hp⟩
  have HP := Hid.of hp
  clear hp
  dsimp only
  go_wp2
  go_ret
  exact ⟨rfl, HP.out⟩
set_option maxRecDepth 100000 in
set_option maxHeartbeats 1000000 in
theorem act2_Remove1 (D u acts : Nat) (room used wrs trn ft : Int) (vM vL vC vLo : Value) (c0 c1 : Value) (w : World) (hA : At w D 85 [.int .i64 room, .int .i64 used, .bool false, vM, vL, vC, vLo, .int .i64 wrs, .int .i64 trn, .int .i64 (acts : Int), .int .i64 (u : Int), .int .i64 ft]) (hu : u ≤ 4611686018427387904) (hu1 : u ≠ 1) (h1 : acts ≤ 4611686018427387904) (Post : World → Prop)
    (H : ∀ w1, At w1 D 85 [.int .i64 room, .int .i64 used, .bool false, vM, vL, vC, vLo, .int .i64 wrs, .int .i64 trn, .int .i64 ((acts + 1 : Nat) : Int), .int .i64 ((u - 1 : Nat) : Int), .int .i64 ft] → w.grownBy w1 (some D) → Calls Tryz.prog 99 #[c0, c1] w1 fun e w2 => e = .returned (.tuple #[]) ∧ Post w2) :
    Calls Tryz.prog 45 #[pv D, .int .i64 0, .func (.func 99) #[] #[c0, c1]] w fun e w2 => e = .returned (.int .i64 0) ∧ Post w2 := by
  have hc2 := hA.cell (i := 2) rfl
  have hc9 := hA.cell (i := 9) rfl
  have ht9 := hA.thaw 9
  have ea : (acts : Int) + 1 = ((acts + 1 : Nat) : Int) := by omega
  have HA1 := Hid.of (hA.set 9 (.int .i64 ((acts : Int) + 1)))
  have HG1 := Hid.of (grown_at w D 9 (.int .i64 ((acts : Int) + 1)))
  have HA1' := Hid.of (show At (w.setCell ⟨D, 9, none⟩ (.int .i64 ((acts : Int) + 1))) D 85 [.int .i64 room, .int .i64 used, .bool false, vM, vL, vC, vLo, .int .i64 wrs, .int .i64 trn, .int .i64 ((acts + 1 : Nat) : Int), .int .i64 (u : Int), .int .i64 ft] by rw [← ea]; exact HA1.out)
  have HD := Hid.of (due_gen D u (acts + 1) room used wrs trn ft vM vL vC vLo _ HA1'.out hu)
  rw [if_neg hu1] at HD
  have HC := Hid.of H
  clear hA H HA1 HA1' ea hu1
  go_enter Tryz.func45, Tryz.ntmps45
  go_wp2_with fail
  refine HD.out.mono ?_
  rintro e w1 ⟨rfl, a1, g1⟩
  have HCC := Hid.of (HC.out w1 a1 (grown_trans HG1.out g1))
  clear a1 g1 HC
  dsimp only
  clear hc2 hc9 ht9
  go_wp2_with fail
  refine HCC.out.mono ?_
  rintro e w2 ⟨rfl, hp⟩
  have HP := Hid.of hp
  clear hp
  dsimp only
  go_wp2
  go_ret
  exact ⟨rfl, HP.out⟩
end Go.Proofs.YtaibjeehjhlicaaGreatDoor
namespace Go.Proofs.YtaibjeehjhlicaaGreatDoor
open Go.RowKit Go.Shelf TextNum ModNum
def nmE (l : List UInt8) : Int := if isNm l = true then 0 else 120
set_option maxRecDepth 100000 in
theorem nameError_gen (nm : ByteArray) (w : World) (hG : ML w) : Calls Tryz.prog 51 #[.string nm] w fun e w' => e = .returned (.int .i64 (nmE nm.data.toList)) ∧ Up w w' := by
  have HN := Hid.of (isName_walk nm w hG)
  clear hG
  cases hn : isNm nm.data.toList with
  | false =>
    have HR := Hid.of (show nmE nm.data.toList = 120 by unfold nmE; rw [hn]; rfl)
    rw [hn] at HN
    clear hn
    go_enter Tryz.func51, Tryz.ntmps51
    go_wp2_with fail
    refine (HN.out).mono ?_
    rintro e w1 ⟨rfl, u1⟩
    have H1 := Hid.of (u1)
    have Hu1 := Hid.of u1
    clear u1
    dsimp only
    go_wp2
    go_ret
    rw [HR.out]
    exact ⟨rfl, H1.out⟩
  | true =>
    have HR := Hid.of (show nmE nm.data.toList = 0 by unfold nmE; rw [hn]; rfl)
    rw [hn] at HN
    clear hn
    go_enter Tryz.func51, Tryz.ntmps51
    go_wp2_with fail
    refine (HN.out).mono ?_
    rintro e w1 ⟨rfl, u1⟩
    have H1 := Hid.of (u1)
    have Hu1 := Hid.of u1
    clear u1
    dsimp only
    go_wp2
    go_ret
    rw [HR.out]
    exact ⟨rfl, H1.out⟩
/-- the disk with one act counted -/
abbrev acS (s : DD) : DD := { s with acts := s.acts + 1, unt := s.unt - 1, flt := s.flt, dead := s.dead }
theorem DOk.disk0 {w : World} {B D T : Nat} {s : DD} (h : DOk w B D T s) (hd : s.dead = false) : At w D 85 [.int .i64 (s.room : Int), .int .i64 (usd s.nf : Int), .bool false, .map (some s.M), .map (some s.L), s.vC, s.vLo, .int .i64 (lsd (fls s) : Int), .int .i64 (s.trn : Int), .int .i64 (s.acts : Int), .int .i64 (s.unt : Int), .int .i64 s.flt] := by
  have := h.disk
  unfold dcl at this
  rw [hd] at this
  exact this
theorem DOk.acs {w w1 : World} {B D T : Nat} {s : DD} (h : DOk w B D T s) (hd : s.dead = false) (g : w.grownBy w1 (some D)) (hd1 : At w1 D 85 [.int .i64 (s.room : Int), .int .i64 (usd s.nf : Int), .bool false, .map (some s.M), .map (some s.L), s.vC, s.vLo, .int .i64 (lsd (fls s) : Int), .int .i64 (s.trn : Int), .int .i64 ((s.acts + 1 : Nat) : Int), .int .i64 ((s.unt - 1 : Nat) : Int), .int .i64 s.flt]) (hT : T + 1 ≤ 100000) :
    DOk w1 B D (T + 1) (acS s) ∧ Fr (fun k => k = D) w w1 := by
  have hn := h.num
  refine h.acted g (s.acts + 1) (s.unt - 1) s.flt s.dead ?_ (by omega) hT
  rw [hd]
  exact hd1
/-- what an act leaves -/
def Aft (w w' : World) (B D T : Nat) (s s' : DD) : Prop := DOk w' B D (T + 2) s' ∧ Nw w.heap.size D s s' ∧ Fr (own D s) w w'
theorem DOk.more {w : World} {B D T T' : Nat} {s : DD} (h : DOk w B D T s) (hT : T ≤ T') (hT' : T' ≤ 100000) : DOk w B D T' s := by
  obtain ⟨n1, n2, n3, n4, n5, n6, n7, n8, n9, n10, n11⟩ := h.num
  exact { h with
    sz := fun f hf => by have := h.sz f hf; omega
    num := by omega }
set_option maxRecDepth 100000 in
set_option maxHeartbeats 4000000 in
theorem Create_gen {B D T : Nat} {s : DD} (nm : ByteArray) (w : World) (h : DOk w B D T s) (hn : isNm nm.data.toList = true) (hd : s.dead = false) (hu : s.unt ≤ 4611686018427387904) (hu1 : s.unt ≠ 1) (hT : T + 2 ≤ 100000) :
    Calls Tryz.prog 21 #[pv D, .string nm] w fun e w' => e = .returned (.int .i64 0) ∧ ∃ F bp b2 vC vLo, Aft w w' B D T s (crS (acS s) nm F bp b2 vC vLo) := by
  have HI := Hid.of h
  have HB1 := Hid.of ((at_new w 24 [pv D]).up ((Up.refl _).alloc (.cells [.string nm].toArray 9)))
  have hb2 := at_new (w.alloc (.cells [pv D].toArray 24)) 9 [.string nm]
  rw [alloc_size] at hb2
  have HB2 := Hid.of hb2
  have HU := Hid.of (((Up.refl w).alloc (.cells [pv D].toArray 24)).alloc (.cells [.string nm].toArray 9))
  have HPost : ∀ w3, Up w w3 → At w3 w.heap.size 24 [pv D] → At w3 (w.heap.size + 1) 9 [.string nm] →
      Calls Tryz.prog 45 #[pv D, .int .i64 0, .func (.func 52) #[] #[pv w.heap.size, pv (w.heap.size + 1)]] w3 fun e w9 => e = .returned (.int .i64 0) ∧ ∃ F bp b2 vC vLo, Aft w w9 B D T s (crS (acS s) nm F bp b2 vC vLo) := fun w3 u3 b1 b2 => by
    have h3 := HI.out.up u3
    have hnum := h3.num
    refine act2_Create1 D s.unt s.acts s.room (usd s.nf) (lsd (fls s)) s.trn s.flt (.map (some s.M)) (.map (some s.L)) s.vC s.vLo _ _ w3 (h3.disk0 hd) hu hu1 (by omega) (fun w9 => ∃ F bp b2 vC vLo, Aft w w9 B D T s (crS (acS s) nm F bp b2 vC vLo)) (fun w4 hd4 g4 => ?_)
    obtain ⟨h4, f4⟩ := h3.acs hd g4 hd4 (by omega)
    have b1' := f4.at b1 (fun e => b1.ne h3.disk (by decide) e)
    have b2' := f4.at b2 (fun e => b2.ne h3.disk (by decide) e)
    refine (create1_dd (N := w.heap.size) nm w.heap.size (w.heap.size + 1) w4 h4 (by have := u3.size; have := f4.size; omega) hn b1' b2' (by omega) (by omega)).mono ?_
    rintro e w9 ⟨rfl, F, bp, vC, vLo, q1, q2, q3, _⟩
    refine ⟨rfl, F, bp, w.heap.size + 1, vC, vLo, q1, q2, ?_⟩
    exact (((Fr.refl (own D s) w).up u3).trans f4 (fun g hg => .inl (.inl hg))).trans q3 (fun g hg => .inl (Sn.own (s := acS s) hg))
  have HPo := Hid.of HPost
  have HG := Hid.of h.ml
  have HNE := Hid.of (show nmE nm.data.toList = 0 by unfold nmE; rw [hn]; rfl)
  clear HPost h hb2 hn
  go_enter Tryz.func21, Tryz.ntmps21
  go_wp2
  generalize (w.alloc (.cells [pv D].toArray 24)).alloc (.cells [.string nm].toArray 9) = W2 at *
  have hNe := nameError_gen nm W2.drew (HG.out.up HU.out.drew)
  rw [HNE.out] at hNe
  have HNe := Hid.of hNe
  clear hNe
  have c1 := HB1.out.cell (i := 0) rfl
  have c2 := HB2.out.cell (i := 0) rfl
  apply wp_som (fun _ _ u => ∃ F bp b2 vC vLo, Aft w u B D T s (crS (acS s) nm F bp b2 vC vLo))
  case h =>
    go_region_with (first | (go_at_call 51; refine HNe.out.mono ?_; rintro e w3 ⟨rfl, u3⟩; have hu3 := (Up.refl W2).drew.trans u3; have c1b := (HB1.out.up hu3).cell (i := 0) rfl; have c2b := (HB2.out.up hu3).cell (i := 0) rfl; have HX3 := Hid.of hu3; clear u3 hu3) | (go_at_call 45; refine (HPo.out _ (HU.out.trans HX3.out) (HB1.out.up HX3.out) (HB2.out.up HX3.out)).mono ?_; rintro e w9 ⟨rfl, hP⟩; have HP9 := Hid.of hP; clear hP; obtain ⟨x0, hx0⟩ : ∃ x : Option Addr, x = none := ⟨_, rfl⟩; obtain ⟨n0, hn0⟩ : ∃ n : Nat, n = 0 := ⟨_, rfl⟩))
    all_goals exact ⟨x0, n0, _, HP9.out, rfl, rfl⟩
  intro _ _ w9 hR
  have HR := Hid.of hR
  clear hR
  go_wp2
  go_ret
  exact ⟨rfl, HR.out⟩
end Go.Proofs.YtaibjeehjhlicaaGreatDoor
