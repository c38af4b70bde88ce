import Derived.Test.YtehnnlhoajdcaaaGreatDoorWg
namespace Go.Proofs.YtehnnlhoajdcaaaGreatDoor
open Go.RowKit TextNum
set_option maxRecDepth 100000 in
set_option maxHeartbeats 1000000 in
theorem numberOf_err (ad : Nat → Addr) (k : Nat) (hk : k < 12) (w : World) (h : GE w ad) : Calls Tryz.prog 55 #[ev (ad k)] w fun e w' => e = .returned (.int .i64 (nums k)) ∧ Up w w' := by
 have HG := Ho h
 have HR := Ho (refusals_walk ad w h)
 clear h
 go_enter Tryz.func55, Tryz.ntmps55
 go_wp2_with fail
 refine HR.o.mono ?_
 rintro e w1 ⟨rfl, u1⟩
 have HU1 := Ho u1
 clear u1 HR
 dsimp only
 obtain ⟨vr, hvr⟩ := ny (Value.agg (rfC ad).toArray)
 have HVR := Ho hvr
 rw [hvr]
 clear hvr
 go_wp2
 go_loopw [6] (fun v6 wr => ∃ i : Nat, v6 = .int .i64 (i : Int) ∧ i ≤ k ∧ Hd (Up w wr)) (fun v6 _ => 12 - (intOf v6).toNat)
 case atStart => exact ⟨0, rfl, Nat.zero_le _, HU1⟩
 case round =>
  obtain ⟨i, rfl, hi, hU⟩ := hrel
  have HU := Ho hU.o
  clear hU
  have hiz : (i : Int) < 12 := by omega
  go_wp2_with (with_reducible show wpList _ _ _ (⟨_, .index 161 _ _, _, _, _, _⟩ :: _) _ _; refine Shut.out ?_)
  show wpList _ _ _ _ _ _
  refine wpList_val7 (.agg (rfR ad i).toArray) rfl (exec_rf ad i (by omega) rfl HVR.o.symm rfl) ?_
  simp only [Act.put, pB, pC, pD]
  have HA := Ho (at_new wr 160 (rfR ad i))
  have HUA := Ho (HU.o.alloc (.cells (rfR ad i).toArray 160))
  have hrf : rfR ad i = [ev (ad i), .int .i64 (nums i), .int .i64 (stas i)] := rfl
  rw [hrf]
  go_wp2_with fail
  obtain ⟨w2, hw2⟩ := ny (wr.alloc (.cells #[Value.iface 299 (Value.pointer (some (ad i))), Value.int IntKind.i64 (nums i), Value.int IntKind.i64 (stas i)] 160))
  replace HUA := Ho (show Up w w2 by rw [← hw2]; exact HUA.o)
  have c1 : w2.cell? ⟨wr.heap.size, 1, none⟩ = some (.int .i64 (nums i)) := by rw [← hw2]; exact HA.o.cell (i := 1) rfl
  have HGA := Ho (HG.o.up HUA.o)
  rw [hw2]
  clear hw2 hrf
  by_cases hik : i = k
  · subst hik
    refine (is_same (ad i) w2).mono ?_
    rintro e w5 ⟨rfl, h9⟩
    obtain rfl := h9.symm
    clear h9
    dsimp only
    obtain ⟨ni, hni⟩ := ny (nums i)
    have HNI := Ho hni
    rw [hni] at c1 ⊢
    clear hni
    go_wp2
    go_ret
    rw [HNI.o]
    exact ⟨rfl, HUA.o⟩
  obtain ⟨ca, ta, hba⟩ := HGA.o.bl k hk
  obtain ⟨cb', tb, hbb⟩ := HGA.o.bl i (by omega)
  refine (is_other (ad k) (ad i) ca cb' ta tb w2 (HG.o.ne k i hk (by omega) (fun e => hik e.symm)) hba hbb).mono ?_
  rintro e w5 ⟨rfl, h9⟩
  obtain rfl := h9.symm
  clear h9 hba hbb
  dsimp only
  go_wp2
  go_roundw
  all_goals first
   | exact ⟨i + 1, by go_num, by omega, HUA⟩
   | (simp [intOf]; omega)
set_option maxRecDepth 100000 in
set_option maxHeartbeats 1000000 in
theorem numberOf_nil (ad : Nat → Addr) (w : World) (h : GE w ad) : Calls Tryz.prog 55 #[.nilIface] w fun e w' => e = .returned (.int .i64 0) ∧ Up w w' := by
 have HG := Ho h
 have HR := Ho (refusals_walk ad w h)
 clear h
 go_enter Tryz.func55, Tryz.ntmps55
 go_wp2_with fail
 refine HR.o.mono ?_
 rintro e w1 ⟨rfl, u1⟩
 have HU1 := Ho u1
 clear u1 HR
 dsimp only
 obtain ⟨vr, hvr⟩ := ny (Value.agg (rfC ad).toArray)
 have HVR := Ho hvr
 rw [hvr]
 clear hvr
 go_wp2
 go_loopw [6] (fun v6 wr => ∃ i : Nat, v6 = .int .i64 (i : Int) ∧ i ≤ 12 ∧ Hd (Up w wr)) (fun v6 _ => 12 - (intOf v6).toNat)
 case atStart => exact ⟨0, rfl, Nat.zero_le _, HU1⟩
 case round =>
  obtain ⟨i, rfl, hi, hU⟩ := hrel
  have HU := Ho hU.o
  clear hU
  by_cases hil : i < 12
  · have hiz : (i : Int) < 12 := by omega
    go_wp2_with (with_reducible show wpList _ _ _ (⟨_, .index 161 _ _, _, _, _, _⟩ :: _) _ _; refine Shut.out ?_)
    show wpList _ _ _ _ _ _
    refine wpList_val7 (.agg (rfR ad i).toArray) rfl (exec_rf ad i (by omega) rfl HVR.o.symm rfl) ?_
    simp only [Act.put, pB, pC, pD]
    have HUA := Ho (HU.o.alloc (.cells (rfR ad i).toArray 160))
    have hrf : rfR ad i = [ev (ad i), .int .i64 (nums i), .int .i64 (stas i)] := rfl
    rw [hrf]
    go_wp2_with fail
    obtain ⟨w2, hw2⟩ := ny (wr.alloc (.cells #[Value.iface 299 (Value.pointer (some (ad i))), Value.int IntKind.i64 (nums i), Value.int IntKind.i64 (stas i)] 160))
    replace HUA := Ho (show Up w w2 by rw [← hw2]; exact HUA.o)
    rw [hw2]
    clear hw2 hrf
    refine (is_nil (ad i) w2).mono ?_
    rintro e w5 ⟨rfl, h9⟩
    obtain rfl := h9.symm
    clear h9
    dsimp only
    go_wp2
    go_roundw
    all_goals first
     | exact ⟨i + 1, by go_num, by omega, HUA⟩
     | (simp [intOf]; omega)
  have hiz : ¬ (i : Int) < 12 := by omega
  go_wp2
  go_ret
  exact ⟨rfl, HU.o⟩
end Go.Proofs.YtehnnlhoajdcaaaGreatDoor
