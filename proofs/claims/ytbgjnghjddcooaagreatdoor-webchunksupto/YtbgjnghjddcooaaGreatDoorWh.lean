import Derived.Test.YtbgjnghjddcooaaGreatDoorWg
namespace Go.Proofs.YtbgjnghjddcooaaGreatDoor
open Go.RowKit TextNum
theorem infoRf3 : (Tryz.prog.info? 85).map (·.size) = some 3 := by kernel_rfl
set_option maxRecDepth 100000 in
set_option maxHeartbeats 1000000 in
/-- the number of a sentinel -/
theorem numberOf_err (ad : Nat → Addr) (k : Nat) (hk : k < 12) (w : World) (h : GE w ad) : Calls Tryz.prog 28 #[ev (ad k)] w fun e w' => e = .returned (.int .i64 (nums k)) ∧ Up w w' := by
  have HG := Hid.of h
  have HR := Hid.of (refusals_walk ad w h)
  clear h
  go_enter Tryz.func28, Tryz.ntmps28
  go_wp2_with fail
  refine HR.out.mono ?_
  rintro e w1 ⟨rfl, u1⟩
  have HU1 := Hid.of u1
  clear u1 HR
  dsimp only
  obtain ⟨vr, hvr⟩ : ∃ vr, Value.agg (rfC ad).toArray = vr := ⟨_, rfl⟩
  have HVR := Hid.of hvr
  rw [hvr]
  clear hvr
  go_wp2
  go_loopw [6] (fun v6 wr => ∃ i : Nat, v6 = .int .i64 (i : Int) ∧ i ≤ k ∧ Hid (Up w wr)) (fun v6 _ => 12 - (intOf v6).toNat)
  case atStart => exact ⟨0, rfl, Nat.zero_le _, HU1⟩
  case round =>
    obtain ⟨i, rfl, hi, hU⟩ := hrel
    have HU := Hid.of hU.out
    clear hU
    have hiz : (i : Int) < 12 := by omega
    go_wp2_with (with_reducible show wpList _ _ _ ({ dst := _, op := Op.index 86 _ _, type := _, pos := _, after := _, guard := _ } :: _) _ _; refine Shut.out ?_)
    show wpList _ _ _ _ _ _
    refine wpList_val7 (.agg (rfR ad i).toArray) rfl (exec_rf ad i (by omega) rfl HVR.out.symm rfl) ?_
    simp only [Act.put, List.setIfInBounds_toArray, List.set_cons_zero, List.set_cons_succ]
    have HA := Hid.of (at_new wr 85 (rfR ad i))
    have HUA := Hid.of (HU.out.alloc (.cells (rfR ad i).toArray 85))
    have hrf : rfR ad i = [ev (ad i), .int .i64 (nums i), .int .i64 (stas i)] := rfl
    rw [hrf]
    go_wp2_with fail
    obtain ⟨w2, hw2⟩ : ∃ w2, wr.alloc (.cells #[Value.iface 224 (Value.pointer (some (ad i))), Value.int IntKind.i64 (nums i), Value.int IntKind.i64 (stas i)] 85) = w2 := ⟨_, rfl⟩
    replace HUA := Hid.of (show Up w w2 by rw [← hw2]; exact HUA.out)
    have c1 : w2.cell? ⟨wr.heap.size, 1, none⟩ = some (.int .i64 (nums i)) := by rw [← hw2]; exact HA.out.cell (i := 1) rfl
    have HGA := Hid.of (HG.out.up HUA.out)
    rw [hw2]
    clear hw2 hrf
    by_cases hik : i = k
    · subst hik
      refine (is_same (ad i) w2).mono ?_
      rintro e w5 ⟨rfl, h9⟩
      obtain rfl := h9.symm
      clear h9
      dsimp only
      obtain ⟨ni, hni⟩ : ∃ ni, nums i = ni := ⟨_, rfl⟩
      have HNI := Hid.of hni
      rw [hni] at c1 ⊢
      clear hni
      go_wp2
      go_ret
      rw [HNI.out]
      exact ⟨rfl, HUA.out⟩
    · obtain ⟨ca, ta, hba⟩ := HGA.out.bl k hk
      obtain ⟨cb', tb, hbb⟩ := HGA.out.bl i (by omega)
      refine (is_other (ad k) (ad i) ca cb' ta tb w2 (HG.out.ne k i hk (by omega) (fun e => hik e.symm)) hba hbb).mono ?_
      rintro e w5 ⟨rfl, h9⟩
      obtain rfl := h9.symm
      clear h9 hba hbb
      dsimp only
      go_wp2
      go_roundw
      all_goals first
        | exact ⟨i + 1, by go_num, by omega, HUA⟩
        | (simp [intOf]; omega)
set_option maxRecDepth 100000 in
set_option maxHeartbeats 1000000 in
/-- no error has no number -/
theorem numberOf_nil (ad : Nat → Addr) (w : World) (h : GE w ad) : Calls Tryz.prog 28 #[.nilIface] w fun e w' => e = .returned (.int .i64 0) ∧ Up w w' := by
  have HG := Hid.of h
  have HR := Hid.of (refusals_walk ad w h)
  clear h
  go_enter Tryz.func28, Tryz.ntmps28
  go_wp2_with fail
  refine HR.out.mono ?_
  rintro e w1 ⟨rfl, u1⟩
  have HU1 := Hid.of u1
  clear u1 HR
  dsimp only
  obtain ⟨vr, hvr⟩ : ∃ vr, Value.agg (rfC ad).toArray = vr := ⟨_, rfl⟩
  have HVR := Hid.of hvr
  rw [hvr]
  clear hvr
  go_wp2
  go_loopw [6] (fun v6 wr => ∃ i : Nat, v6 = .int .i64 (i : Int) ∧ i ≤ 12 ∧ Hid (Up w wr)) (fun v6 _ => 12 - (intOf v6).toNat)
  case atStart => exact ⟨0, rfl, Nat.zero_le _, HU1⟩
  case round =>
    obtain ⟨i, rfl, hi, hU⟩ := hrel
    have HU := Hid.of hU.out
    clear hU
    by_cases hil : i < 12
    · have hiz : (i : Int) < 12 := by omega
      go_wp2_with (with_reducible show wpList _ _ _ ({ dst := _, op := Op.index 86 _ _, type := _, pos := _, after := _, guard := _ } :: _) _ _; refine Shut.out ?_)
      show wpList _ _ _ _ _ _
      refine wpList_val7 (.agg (rfR ad i).toArray) rfl (exec_rf ad i (by omega) rfl HVR.out.symm rfl) ?_
      simp only [Act.put, List.setIfInBounds_toArray, List.set_cons_zero, List.set_cons_succ]
      have HUA := Hid.of (HU.out.alloc (.cells (rfR ad i).toArray 85))
      have hrf : rfR ad i = [ev (ad i), .int .i64 (nums i), .int .i64 (stas i)] := rfl
      rw [hrf]
      go_wp2_with fail
      obtain ⟨w2, hw2⟩ : ∃ w2, wr.alloc (.cells #[Value.iface 224 (Value.pointer (some (ad i))), Value.int IntKind.i64 (nums i), Value.int IntKind.i64 (stas i)] 85) = w2 := ⟨_, rfl⟩
      replace HUA := Hid.of (show Up w w2 by rw [← hw2]; exact HUA.out)
      rw [hw2]
      clear hw2 hrf
      refine (is_nil (ad i) w2).mono ?_
      rintro e w5 ⟨rfl, h9⟩
      obtain rfl := h9.symm
      clear h9
      dsimp only
      go_wp2
      go_roundw
      all_goals first
        | exact ⟨i + 1, by go_num, by omega, HUA⟩
        | (simp [intOf]; omega)
    · have hiz : ¬ (i : Int) < 12 := by omega
      go_wp2
      go_ret
      exact ⟨rfl, HU.out⟩
/-- the first row of this number -/
def sOf (e : Int) : Int := if e = 0 then 200 else match (List.range 12).find? fun k => nums k == e with
  | some k => stas k
  | none => 500
set_option maxRecDepth 100000 in
set_option maxHeartbeats 1000000 in
theorem StatusOf_walk (ad : Nat → Addr) (er : Int) (w : World) (h : GE w ad) : Calls Tryz.prog 22 #[.int .i64 er] w fun e w' => e = .returned (.int .i64 (sOf er)) ∧ Up w w' := by
  have HR := Hid.of (refusals_walk ad w h)
  clear h
  by_cases h0 : er = 0
  · subst h0
    go_enter Tryz.func22, Tryz.ntmps22
    go_wp2
    go_ret
    exact ⟨rfl, Up.refl _⟩
  have hez : (er == 0) = false := by rw [beq_eq_false_iff_ne]; exact h0
  have HS := Hid.of (show sOf er = match (List.range 12).find? fun k => nums k == er with
    | some k => stas k
    | none => 500 from if_neg h0)
  clear h0
  obtain ⟨so, hso⟩ : ∃ so, sOf er = so := ⟨_, rfl⟩
  rw [hso] at HS ⊢
  clear hso
  go_enter Tryz.func22, Tryz.ntmps22
  go_wp2_with fail
  refine HR.out.mono ?_
  rintro e w1 ⟨rfl, u1⟩
  have HU1 := Hid.of u1
  clear u1 HR
  dsimp only
  obtain ⟨vr, hvr⟩ : ∃ vr, Value.agg (rfC ad).toArray = vr := ⟨_, rfl⟩
  have HVR := Hid.of hvr
  rw [hvr]
  clear hvr
  go_wp2
  go_loopw [8] (fun v8 wr => ∃ i : Nat, v8 = .int .i64 (i : Int) ∧ i ≤ 12 ∧ Hid (Up w wr ∧ (List.range i).find? (fun k => nums k == er) = none)) (fun v8 _ => 12 - (intOf v8).toNat)
  case atStart => exact ⟨0, rfl, Nat.zero_le _, Hid.of ⟨HU1.out, rfl⟩⟩
  case round =>
    obtain ⟨i, rfl, hi, hU⟩ := hrel
    have HU := Hid.of hU.out
    clear hU
    by_cases hil : i < 12
    · have hiz : (i : Int) < 12 := by omega
      go_wp2_with (with_reducible show wpList _ _ _ ({ dst := _, op := Op.index 86 _ _, type := _, pos := _, after := _, guard := _ } :: _) _ _; refine Shut.out ?_)
      show wpList _ _ _ _ _ _
      refine wpList_val7 (.agg (rfR ad i).toArray) rfl (exec_rf ad i (by omega) rfl HVR.out.symm rfl) ?_
      simp only [Act.put, List.setIfInBounds_toArray, List.set_cons_zero, List.set_cons_succ]
      have HUA := Hid.of (HU.out.1.alloc (.cells #[Value.iface 224 (Value.pointer (some (ad i))), Value.int IntKind.i64 (nums i), Value.int IntKind.i64 (stas i)] 85))
      have hrf : rfR ad i = [ev (ad i), .int .i64 (nums i), .int .i64 (stas i)] := rfl
      rw [hrf]
      have HX := Hid.of (show (List.range (i + 1)).find? (fun k => nums k == er) = if nums i == er then some i else none by
        rw [List.range_succ, List.find?_append, HU.out.2]
        simp)
      have HY := Hid.of (show nums i == er → so = stas i from fun e => by
        rw [HS.out]
        have h1 : (List.range 12).find? (fun k => nums k == er) = some i := by
          have h2 : List.range 12 = List.range (i + 1) ++ (List.range (12 - (i + 1))).map (i + 1 + ·) := by
            rw [← List.range_add]
            congr 1
            omega
          rw [h2, List.find?_append, HX.out, if_pos e]
          rfl
        rw [h1])
      generalize nums i = ni at *
      generalize stas i = si at *
      cases hne : (ni == er) with
      | true =>
        have HE := Hid.of (HY.out hne)
        go_wp2
        go_ret
        rw [HE.out]
        exact ⟨rfl, HUA.out⟩
      | false =>
        rw [hne] at HX
        go_wp2
        go_roundw
        all_goals first
          | exact ⟨i + 1, by go_num, by omega, Hid.of ⟨HUA.out, HX.out⟩⟩
          | (simp [intOf]; omega)
    · have hiz : ¬ (i : Int) < 12 := by omega
      have hi12 : i = 12 := by omega
      subst hi12
      have HE := Hid.of (show so = 500 by rw [HS.out, HU.out.2])
      go_wp2
      go_ret
      rw [HE.out]
      exact ⟨rfl, HU.out.1⟩
end Go.Proofs.YtbgjnghjddcooaaGreatDoor
