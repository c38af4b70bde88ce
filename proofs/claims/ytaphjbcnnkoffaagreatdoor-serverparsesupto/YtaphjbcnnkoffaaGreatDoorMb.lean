import Derived.Test.YtaphjbcnnkoffaaGreatDoorMa
namespace Go.Proofs.YtaphjbcnnkoffaaGreatDoor
open Go.RowKit TextNum ModNum
theorem len_of (s : ByteArray) : s.data.toList.length = s.size := (Go.Lib.size_eq s).symm
theorem head_at {s : ByteArray} (h : 0 < s.size) : s.data.toList.head? = some s[0] := by
  obtain ⟨r, hr⟩ := head_of' h
  rw [hr]; rfl
set_option maxRecDepth 100000 in
set_option maxHeartbeats 1000000 in
theorem isNumber_walk (s : ByteArray) (w : World) (hG : GM w) : Calls Tryz.prog 135 #[.string s] w fun e w' => e = .returned (.bool (isNum s.data.toList)) ∧ Up w w' := by
  have HA := Hid.of (allOf_walk s 4 (by decide) w hG)
  have HR : Hid (isNum s.data.toList = (al 4 s.data.toList && (s.size == 1 || (decide (1 < s.size) && s.data.toList.head? != some 48)))) := by unfold isNum; rw [len_of]; rfl
  clear hG
  cases ha : al 4 s.data.toList with
  | false =>
    rw [ha] at HA HR
    go_enter Tryz.func135, Tryz.ntmps135
    go_wp2_with fail
    refine HA.out.mono ?_
    rintro e w1 ⟨rfl, u1⟩
    have HU := Hid.of u1
    clear u1
    dsimp only
    go_wp2
    go_ret
    rw [HR.out]
    exact ⟨rfl, HU.out⟩
  | true =>
    rw [ha] at HA HR
    clear ha
    by_cases h1 : s.size = 1
    · have h1z : ((s.size : Int) == 1) = true := by rw [beq_iff_eq]; omega
      go_enter Tryz.func135, Tryz.ntmps135
      go_wp2_with fail
      refine HA.out.mono ?_
      rintro e w1 ⟨rfl, u1⟩
      have HU := Hid.of u1
      clear u1
      dsimp only
      go_wp2
      go_ret
      rw [HR.out, h1]
      exact ⟨rfl, HU.out⟩
    · have h1z : ((s.size : Int) == 1) = false := by rw [beq_eq_false_iff_ne]; omega
      have h1n : (s.size == 1) = false := by rw [beq_eq_false_iff_ne]; exact h1
      rw [h1n] at HR
      by_cases h2 : 1 < s.size
      · have h2z : (1 : Int) < (s.size : Int) := by omega
        have h0 : 0 < s.size := by omega
        rw [decide_eq_true h2, head_at h0] at HR
        have hb : (((s[0].toNat : Nat) : Int) != 48) = (some s[0] != some 48) := by
          rw [Bool.eq_iff_iff]
          simp only [bne_iff_ne, ne_eq, Option.some.injEq]
          rw [show (48 : Int) = (((48 : UInt8).toNat : Nat) : Int) from rfl, Int.natCast_inj, UInt8.toNat_inj]
        generalize hbb : (some s[0] != some (48 : UInt8)) = bb at *
        clear hbb h1 h1n
        go_enter Tryz.func135, Tryz.ntmps135
        go_wp2_with fail
        refine HA.out.mono ?_
        rintro e w1 ⟨rfl, u1⟩
        have HU := Hid.of u1
        clear u1
        dsimp only
        go_wp2
        go_ret
        rw [HR.out]
        exact ⟨by simp, HU.out⟩
      · have h2z : ¬ (1 : Int) < (s.size : Int) := by omega
        rw [decide_eq_false h2] at HR
        go_enter Tryz.func135, Tryz.ntmps135
        go_wp2_with fail
        refine HA.out.mono ?_
        rintro e w1 ⟨rfl, u1⟩
        have HU := Hid.of u1
        clear u1
        dsimp only
        go_wp2
        go_ret
        rw [HR.out]
        exact ⟨rfl, HU.out⟩
theorem eq_str (s : ByteArray) (l : List UInt8) : (s.toList == l) = (s.data.toList == l) := by rw [Go.Lib.toList_data]
set_option maxRecDepth 100000 in
theorem isLow_walk (s : ByteArray) (w : World) : Calls Tryz.prog 117 #[.string s] w fun e w' => e = .returned (.bool (isLow s.data.toList)) ∧ w' = w := by
  go_enter Tryz.func117, Tryz.ntmps117
  go_wp2
  · rename_i h
    rw [Go.Lib.toList_data] at h
    go_ret
    exact ⟨by unfold isLow; rw [h]; rfl, rfl⟩
  · go_ret
    exact ⟨by simp only [eq_str]; rfl, rfl⟩
set_option maxRecDepth 100000 in
theorem isWord_walk (s : ByteArray) (w : World) (hG : GM w) : Calls Tryz.prog 137 #[.string s] w fun e w' => e = .returned (.bool (isWrd s.data.toList)) ∧ Up w w' := by
  have HA := Hid.of (allOf_walk s 4 (by decide) w hG)
  have HN := fun w' => fun (u : Up w w') => Hid.of (isNumber_walk s w' (hG.up u))
  have HW := fun w' => fun (u : Up w w') => Hid.of (allOf_walk s 15 (by decide) w' (hG.up u))
  clear hG
  unfold isWrd
  cases ha : al 4 s.data.toList with
  | false =>
    rw [ha] at HA
    go_enter Tryz.func137, Tryz.ntmps137
    go_wp2_with fail
    refine HA.out.mono ?_
    rintro e w1 ⟨rfl, u1⟩
    have HU := Hid.of u1
    clear u1
    dsimp only
    go_wp2_with fail
    refine (HW _ HU.out).out.mono ?_
    rintro e w2 ⟨rfl, u2⟩
    have HU2 := Hid.of (HU.out.trans u2)
    clear u2
    dsimp only
    go_wp2
    go_ret
    exact ⟨rfl, HU2.out⟩
  | true =>
    rw [ha] at HA
    go_enter Tryz.func137, Tryz.ntmps137
    go_wp2_with fail
    refine HA.out.mono ?_
    rintro e w1 ⟨rfl, u1⟩
    have HU := Hid.of u1
    clear u1
    dsimp only
    go_wp2_with fail
    refine (HN _ HU.out).out.mono ?_
    rintro e w2 ⟨rfl, u2⟩
    have HU2 := Hid.of (HU.out.trans u2)
    clear u2
    dsimp only
    go_wp2
    go_ret
    exact ⟨rfl, HU2.out⟩
end Go.Proofs.YtaphjbcnnkoffaaGreatDoor
