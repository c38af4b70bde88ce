import Derived.Test.YtkegcilcapnpdaaDoorMr
import Derived.Test.YtkegcilcapnpdaaDoorMh
import Derived.Test.YtkegcilcapnpdaaDoorMa
namespace Go.Proofs.YtkegcilcapnpdaaDoor
open Go.RowKit Go.Shelf FieldNum

theorem equals_is (x y : Nat) (hx : x < M) (hy : y < M) (b : Bool) (h : decide (x % p = y % p) = b) (w : World) : Calls Tryd.prog 83 #[numV x, numV y] w fun e w' => e = .returned (.bool b) ∧ Grown w w' := by
  have := equals_num x y hx hy w
  rwa [h] at this
theorem oddn_is (x : Nat) (hx : x < M) (b : Bool) (h : decide (x % p % 2 = 1) = b) (w : World) : Calls Tryd.prog 56 #[numV x] w fun e w' => e = .returned (.bool b) ∧ Grown w w' := by
  have := odd_num x hx w
  rwa [h] at this

set_option maxRecDepth 100000 in
set_option maxHeartbeats 2000000 in
theorem rootPower_num (x : Nat) (hx : x < M) (w : World) (hGl0 : G0 w) :
    Calls Tryd.prog 82 #[numV x] w fun e w' => (∃ z, e = .returned (numV z) ∧ z < M ∧ z % p = rp x) ∧ Grown w w' := by
  have hW := Grown.refl w
  have hGl := hGl0
  go_enter Tryd.func82, Tryd.ntmps82
  repeat ((fail_if_success (with_reducible show Code.wp _ (Code.region _ _ _) _ _ _)); go_step)
  refine wp_plain [.box 66 (nl (x)), .new 66 4] (by kernel_rfl) (fun β => ?_) (fun β w1 hD => ?_)
  · refine Obs.cons (Ob.box rfl rfl (by kernel_rfl)) ?_
    refine Obs.cons (Ob.new _ rfl rfl zeroN (by simp [nl_length])) ?_
    exact Obs.nil
  obtain ⟨hf_b0, hr_b0⟩ := hD.bx 0 _ _ rfl
  replace hf_b0 := Nat.le_trans hW.2.2 hf_b0
  obtain ⟨hf_b1, ht_b1⟩ := hD.nw 1 _ _ rfl
  replace hf_b1 := Nat.le_trans hW.2.2 hf_b1
  replace hW := grown_trans hW hD.gr
  clear hD
  simp only [finAct, putAll, valsFrom, Plan.value, Act.put, List.setIfInBounds_toArray, List.set_cons_zero, List.set_cons_succ]
  replace hGl := hGl0.grown hW
  generalize β 0 = b0 at *
  generalize β (0 + 1) = b1 at *
  repeat ((fail_if_success (with_reducible show Code.wp _ (Code.region _ _ _) _ _ _)); go_step)
  replace hr_b0 := rangeAt_grown hr_b0 (gdrew w1)
  replace ht_b1 := there_grown ht_b1 (gdrew w1)
  replace hW := grown_trans hW (gdrew w1)
  replace hGl := hGl0.grown hW
  refine wp_loose_fin [.val (numV (x)), .any (fun z => numV (z)) [] (fun l z => z < M ∧ z % p = (x) ^ (EX.getD 10 0) % p), .any (fun z => numV (z)) [1] (fun l z => z < M ∧ z % p = (l.getD 0 0) ^ (2 ^ 2) % p), .val (numV (x)), .any (fun z => numV (z)) [2] (fun l z => z < M ∧ z % p = (l.getD 0 0) * (x) % p), .fin] (b1) 0 (fun β => nl (β 4)) (by kernel_rfl) (by kernel_rfl) (fun β => ?_) (fun β w2 hD => ?_)
  · refine Obs.cons (Ob.load (b0) 0 (nl (x)) rfl rfl (by kernel_rfl) hr_b0 Tryd.underlying66 rfl (by rw [nl_length]; exact infoN)) ?_
    refine Obs.cons (Ob.any 80 #[numV (x)] rfl (fun w => by kernel_rfl) (fun hk w hg => longPower_num (x) hx w (hGl.grown hg).g0.pw)) ?_
    refine Obs.cons (Ob.any 58 #[numV (β 1), .int .i64 (2)] rfl (fun w => by kernel_rfl) (fun hk w hg => squared_num (β 1) 2 (hk 1 _ _ _ rfl (bindsTo_spec (by kernel_rfl))).1 (by decide) w)) ?_
    refine Obs.cons (Ob.load (b0) 0 (nl (x)) rfl rfl (by kernel_rfl) hr_b0 Tryd.underlying66 rfl (by rw [nl_length]; exact infoN)) ?_
    refine Obs.cons (Ob.any 52 #[numV (β 2), numV (x)] rfl (fun w => by kernel_rfl) (fun hk w hg => times_num (β 2) (x) (hk 2 _ _ _ rfl (bindsTo_spec (by kernel_rfl))).1 hx w)) ?_
    refine Obs.cons (Ob.fin rfl (by rw [nl_length]; exact ht_b1) rfl (by kernel_rfl) (by kernel_rfl) (by rw [nl_length]; exact infoN) (nl_one _)) ?_
    exact Obs.nil
  replace hr_b0 := rangeAt_grown hr_b0 hD.gr
  replace ht_b1 := there_grown ht_b1 hD.gr
  have hz2_1 : (β 1) < M ∧ (β 1) % p = (x) ^ (EX.getD 10 0) % p := hD.an 1 _ _ _ rfl
  have hz2_2 : (β 2) < M ∧ (β 2) % p = (β 1) ^ (2 ^ 2) % p := hD.an 2 _ _ _ rfl
  have hz2_4 : (β 4) < M ∧ (β 4) % p = (β 2) * (x) % p := hD.an 4 _ _ _ rfl
  replace hW := grown_trans hW hD.gr
  clear hD
  simp only [finAct, putAll, valsFrom, Plan.value, Act.put, List.setIfInBounds_toArray, List.set_cons_zero, List.set_cons_succ]
  replace hGl := hGl0.grown hW
  generalize β (0 + 1) = z2_1 at *
  generalize β (0 + 1 + 1) = z2_2 at *
  generalize β (0 + 1 + 1 + 1 + 1) = z2_4 at *
  have hq2_1 := Hid.of hz2_1.2
  replace hz2_1 := hz2_1.1
  have hq2_2 := Hid.of hz2_2.2
  replace hz2_2 := hz2_2.1
  have hq2_4 := Hid.of hz2_4.2
  replace hz2_4 := hz2_4.1
  have hs2 := World.rangeAt_setCells_same w2 (b1) 0 (nl (z2_4)) (by rw [nl_length]; exact ht_b1)
  replace hW := grown_setCells hf_b1 (nl (z2_4)) 0 hW
  generalize w2.setCells (b1) 0 (nl (z2_4)) = w2s at *
  repeat go_step
  refine bodyPost_ret (v := numV (z2_4)) (result_cells Tryd.results82 _ _ (b1) (nl (z2_4)) ?hp hs2 Tryd.underlying66 rfl (by rw [nl_length]; exact infoN)) ?hd ?_
  case hp => rfl
  case hd => rfl
  refine ⟨⟨z2_4, rfl, hz2_4, ?_⟩, hW⟩
  have f1 := hq2_1.out
  have f2 := hq2_2.out
  have f3 := hq2_4.out
  have g := pmul (f2.trans (ppow f1)) (pone x)
  rw [f3, g]
  show _ = x ^ ((p - 5) / 8) % p
  exact congrArg (fun n => x ^ n % p) (by decide +kernel)

set_option maxRecDepth 100000 in
set_option maxHeartbeats 2000000 in
theorem rootOfRatio_num (u v : Nat) (hu : u < M) (hv : v < M) (w : World) (hGl0 : G1 w) :
    Calls Tryd.prog 55 #[numV u, numV v] w fun e w' => ((rok u v ∧ ∃ z, e = .returned (.tuple #[numV z, .bool true]) ∧ z < M ∧ v * (z * z) % p = u % p ∧ (u % p = 0 → z % p = 0)) ∨ (¬ rok u v ∧ e = .returned (.tuple #[numV 0, .bool false]))) ∧ Grown w w' := by
  have hW := Grown.refl w
  have hGl := hGl0
  go_enter Tryd.func55, Tryd.ntmps55
  repeat ((fail_if_success (with_reducible show Code.wp _ (Code.region _ _ _) _ _ _)); go_step)
  refine wp_plain [.box 66 (nl (u)), .box 66 (nl (v)), .new 66 4, .imm (.bool false)] (by kernel_rfl) (fun β => ?_) (fun β w1 hD => ?_)
  · refine Obs.cons (Ob.box rfl rfl (by kernel_rfl)) ?_
    refine Obs.cons (Ob.box rfl rfl (by kernel_rfl)) ?_
    refine Obs.cons (Ob.new _ rfl rfl zeroN (by simp [nl_length])) ?_
    refine Obs.cons (Ob.imm rfl (fun w => by kernel_rfl)) ?_
    exact Obs.nil
  obtain ⟨hf_b0, hr_b0⟩ := hD.bx 0 _ _ rfl
  replace hf_b0 := Nat.le_trans hW.2.2 hf_b0
  obtain ⟨hf_b1, hr_b1⟩ := hD.bx 1 _ _ rfl
  replace hf_b1 := Nat.le_trans hW.2.2 hf_b1
  obtain ⟨hf_b2, ht_b2⟩ := hD.nw 2 _ _ rfl
  replace hf_b2 := Nat.le_trans hW.2.2 hf_b2
  replace hW := grown_trans hW hD.gr
  clear hD
  simp only [finAct, putAll, valsFrom, Plan.value, Act.put, List.setIfInBounds_toArray, List.set_cons_zero, List.set_cons_succ]
  replace hGl := hGl0.grown hW
  generalize β 0 = b0 at *
  generalize β (0 + 1) = b1 at *
  generalize β (0 + 1 + 1) = b2 at *
  repeat ((fail_if_success (with_reducible show Code.wp _ (Code.region _ _ _) _ _ _)); go_step)
  replace hr_b0 := rangeAt_grown hr_b0 (gdrew w1)
  replace hr_b1 := rangeAt_grown hr_b1 (gdrew w1)
  replace ht_b2 := there_grown ht_b2 (gdrew w1)
  replace hW := grown_trans hW (gdrew w1)
  replace hGl := hGl0.grown hW
  refine wp_loose [.val (numV (v)), .any (fun z => numV (z)) [] (fun l z => z < M ∧ z % p = (v) ^ (2 ^ 1) % p), .val (numV (v)), .any (fun z => numV (z)) [1] (fun l z => z < M ∧ z % p = (l.getD 0 0) * (v) % p), .new 66 4, .put 4 3 (fun z => nl (z))] (by kernel_rfl) (by kernel_rfl) (fun β => ?_) (fun β w2 hD => ?_)
  · refine Obs.cons (Ob.load (b1) 0 (nl (v)) rfl rfl (by kernel_rfl) hr_b1 Tryd.underlying66 rfl (by rw [nl_length]; exact infoN)) ?_
    refine Obs.cons (Ob.any 58 #[numV (v), .int .i64 (1)] rfl (fun w => by kernel_rfl) (fun hk w hg => squared_num (v) 1 hv (by decide) w)) ?_
    refine Obs.cons (Ob.load (b1) 0 (nl (v)) rfl rfl (by kernel_rfl) hr_b1 Tryd.underlying66 rfl (by rw [nl_length]; exact infoN)) ?_
    refine Obs.cons (Ob.any 52 #[numV (β 1), numV (v)] rfl (fun w => by kernel_rfl) (fun hk w hg => times_num (β 1) (v) (hk 1 _ _ _ rfl (bindsTo_spec (by kernel_rfl))).1 hv w)) ?_
    refine Obs.cons (Ob.new _ rfl rfl zeroN (by simp [nl_length])) ?_
    refine Obs.cons (Ob.put 66 rfl rfl rfl (by kernel_rfl) (by kernel_rfl) (by rw [nl_length]; exact infoN) (nl_one _)) ?_
    exact Obs.nil
  replace hr_b0 := rangeAt_grown hr_b0 hD.gr
  replace hr_b1 := rangeAt_grown hr_b1 hD.gr
  replace ht_b2 := there_grown ht_b2 hD.gr
  obtain ⟨hf_b3, ht_b3⟩ := hD.nw 4 _ _ rfl
  have hr_b3 : w2.rangeAt (β 4) 0 (nl (β 3)) := hD.rg 5 4 3 (fun z => nl (z)) rfl
  replace hf_b3 := Nat.le_trans hW.2.2 hf_b3
  have hz2_1 : (β 1) < M ∧ (β 1) % p = (v) ^ (2 ^ 1) % p := hD.an 1 _ _ _ rfl
  have hz2_3 : (β 3) < M ∧ (β 3) % p = (β 1) * (v) % p := hD.an 3 _ _ _ rfl
  replace hW := grown_trans hW hD.gr
  clear hD
  simp only [finAct, putAll, valsFrom, Plan.value, Act.put, List.setIfInBounds_toArray, List.set_cons_zero, List.set_cons_succ]
  replace hGl := hGl0.grown hW
  generalize β (0 + 1 + 1 + 1 + 1) = b3 at *
  generalize β (0 + 1) = z2_1 at *
  generalize β (0 + 1 + 1 + 1) = z2_3 at *
  have hq2_1 := Hid.of hz2_1.2
  replace hz2_1 := hz2_1.1
  have hq2_3 := Hid.of hz2_3.2
  replace hz2_3 := hz2_3.1
  repeat ((fail_if_success (with_reducible show Code.wp _ (Code.region _ _ _) _ _ _)); go_step)
  replace hr_b0 := rangeAt_grown hr_b0 (gdrew w2)
  replace hr_b1 := rangeAt_grown hr_b1 (gdrew w2)
  replace hr_b3 := rangeAt_grown hr_b3 (gdrew w2)
  replace ht_b2 := there_grown ht_b2 (gdrew w2)
  replace ht_b3 := there_grown ht_b3 (gdrew w2)
  replace hW := grown_trans hW (gdrew w2)
  replace hGl := hGl0.grown hW
  refine wp_loose [.val (numV (z2_3)), .any (fun z => numV (z)) [] (fun l z => z < M ∧ z % p = (z2_3) ^ (2 ^ 1) % p), .val (numV (v)), .any (fun z => numV (z)) [1] (fun l z => z < M ∧ z % p = (l.getD 0 0) * (v) % p), .new 66 4, .put 4 3 (fun z => nl (z))] (by kernel_rfl) (by kernel_rfl) (fun β => ?_) (fun β w3 hD => ?_)
  · refine Obs.cons (Ob.load (b3) 0 (nl (z2_3)) rfl rfl (by kernel_rfl) hr_b3 Tryd.underlying66 rfl (by rw [nl_length]; exact infoN)) ?_
    refine Obs.cons (Ob.any 58 #[numV (z2_3), .int .i64 (1)] rfl (fun w => by kernel_rfl) (fun hk w hg => squared_num (z2_3) 1 hz2_3 (by decide) w)) ?_
    refine Obs.cons (Ob.load (b1) 0 (nl (v)) rfl rfl (by kernel_rfl) hr_b1 Tryd.underlying66 rfl (by rw [nl_length]; exact infoN)) ?_
    refine Obs.cons (Ob.any 52 #[numV (β 1), numV (v)] rfl (fun w => by kernel_rfl) (fun hk w hg => times_num (β 1) (v) (hk 1 _ _ _ rfl (bindsTo_spec (by kernel_rfl))).1 hv w)) ?_
    refine Obs.cons (Ob.new _ rfl rfl zeroN (by simp [nl_length])) ?_
    refine Obs.cons (Ob.put 66 rfl rfl rfl (by kernel_rfl) (by kernel_rfl) (by rw [nl_length]; exact infoN) (nl_one _)) ?_
    exact Obs.nil
  replace hr_b0 := rangeAt_grown hr_b0 hD.gr
  replace hr_b1 := rangeAt_grown hr_b1 hD.gr
  replace hr_b3 := rangeAt_grown hr_b3 hD.gr
  replace ht_b2 := there_grown ht_b2 hD.gr
  replace ht_b3 := there_grown ht_b3 hD.gr
  obtain ⟨hf_b4, ht_b4⟩ := hD.nw 4 _ _ rfl
  have hr_b4 : w3.rangeAt (β 4) 0 (nl (β 3)) := hD.rg 5 4 3 (fun z => nl (z)) rfl
  replace hf_b4 := Nat.le_trans hW.2.2 hf_b4
  have hz3_1 : (β 1) < M ∧ (β 1) % p = (z2_3) ^ (2 ^ 1) % p := hD.an 1 _ _ _ rfl
  have hz3_3 : (β 3) < M ∧ (β 3) % p = (β 1) * (v) % p := hD.an 3 _ _ _ rfl
  replace hW := grown_trans hW hD.gr
  clear hD
  simp only [finAct, putAll, valsFrom, Plan.value, Act.put, List.setIfInBounds_toArray, List.set_cons_zero, List.set_cons_succ]
  replace hGl := hGl0.grown hW
  generalize β (0 + 1 + 1 + 1 + 1) = b4 at *
  generalize β (0 + 1) = z3_1 at *
  generalize β (0 + 1 + 1 + 1) = z3_3 at *
  have hq3_1 := Hid.of hz3_1.2
  replace hz3_1 := hz3_1.1
  have hq3_3 := Hid.of hz3_3.2
  replace hz3_3 := hz3_3.1
  repeat ((fail_if_success (with_reducible show Code.wp _ (Code.region _ _ _) _ _ _)); go_step)
  replace hr_b0 := rangeAt_grown hr_b0 (gdrew w3)
  replace hr_b1 := rangeAt_grown hr_b1 (gdrew w3)
  replace hr_b3 := rangeAt_grown hr_b3 (gdrew w3)
  replace hr_b4 := rangeAt_grown hr_b4 (gdrew w3)
  replace ht_b2 := there_grown ht_b2 (gdrew w3)
  replace ht_b3 := there_grown ht_b3 (gdrew w3)
  replace ht_b4 := there_grown ht_b4 (gdrew w3)
  replace hW := grown_trans hW (gdrew w3)
  replace hGl := hGl0.grown hW
  refine wp_loose [.val (numV (u)), .val (numV (z2_3)), .any (fun z => numV (z)) [] (fun l z => z < M ∧ z % p = (u) * (z2_3) % p), .val (numV (u)), .val (numV (z3_3)), .any (fun z => numV (z)) [] (fun l z => z < M ∧ z % p = (u) * (z3_3) % p), .any (fun z => numV (z)) [5] (fun l z => z < M ∧ z % p = rp (l.getD 0 0)), .any (fun z => numV (z)) [2, 6] (fun l z => z < M ∧ z % p = (l.getD 0 0) * (l.getD 1 0) % p), .new 66 4, .put 8 7 (fun z => nl (z))] (by kernel_rfl) (by kernel_rfl) (fun β => ?_) (fun β w4 hD => ?_)
  · refine Obs.cons (Ob.load (b0) 0 (nl (u)) rfl rfl (by kernel_rfl) hr_b0 Tryd.underlying66 rfl (by rw [nl_length]; exact infoN)) ?_
    refine Obs.cons (Ob.load (b3) 0 (nl (z2_3)) rfl rfl (by kernel_rfl) hr_b3 Tryd.underlying66 rfl (by rw [nl_length]; exact infoN)) ?_
    refine Obs.cons (Ob.any 52 #[numV (u), numV (z2_3)] rfl (fun w => by kernel_rfl) (fun hk w hg => times_num (u) (z2_3) hu hz2_3 w)) ?_
    refine Obs.cons (Ob.load (b0) 0 (nl (u)) rfl rfl (by kernel_rfl) hr_b0 Tryd.underlying66 rfl (by rw [nl_length]; exact infoN)) ?_
    refine Obs.cons (Ob.load (b4) 0 (nl (z3_3)) rfl rfl (by kernel_rfl) hr_b4 Tryd.underlying66 rfl (by rw [nl_length]; exact infoN)) ?_
    refine Obs.cons (Ob.any 52 #[numV (u), numV (z3_3)] rfl (fun w => by kernel_rfl) (fun hk w hg => times_num (u) (z3_3) hu hz3_3 w)) ?_
    refine Obs.cons (Ob.any 82 #[numV (β 5)] rfl (fun w => by kernel_rfl) (fun hk w hg => rootPower_num (β 5) (hk 5 _ _ _ rfl (bindsTo_spec (by kernel_rfl))).1 w (hGl.grown hg).g0)) ?_
    refine Obs.cons (Ob.any 52 #[numV (β 2), numV (β 6)] rfl (fun w => by kernel_rfl) (fun hk w hg => times_num (β 2) (β 6) (hk 2 _ _ _ rfl (bindsTo_spec (by kernel_rfl))).1 (hk 6 _ _ _ rfl (bindsTo_spec (by kernel_rfl))).1 w)) ?_
    refine Obs.cons (Ob.new _ rfl rfl zeroN (by simp [nl_length])) ?_
    refine Obs.cons (Ob.put 66 rfl rfl rfl (by kernel_rfl) (by kernel_rfl) (by rw [nl_length]; exact infoN) (nl_one _)) ?_
    exact Obs.nil
  replace hr_b0 := rangeAt_grown hr_b0 hD.gr
  replace hr_b1 := rangeAt_grown hr_b1 hD.gr
  replace hr_b3 := rangeAt_grown hr_b3 hD.gr
  replace hr_b4 := rangeAt_grown hr_b4 hD.gr
  replace ht_b2 := there_grown ht_b2 hD.gr
  replace ht_b3 := there_grown ht_b3 hD.gr
  replace ht_b4 := there_grown ht_b4 hD.gr
  obtain ⟨hf_b5, ht_b5⟩ := hD.nw 8 _ _ rfl
  have hr_b5 : w4.rangeAt (β 8) 0 (nl (β 7)) := hD.rg 9 8 7 (fun z => nl (z)) rfl
  replace hf_b5 := Nat.le_trans hW.2.2 hf_b5
  have hz4_2 : (β 2) < M ∧ (β 2) % p = (u) * (z2_3) % p := hD.an 2 _ _ _ rfl
  have hz4_5 : (β 5) < M ∧ (β 5) % p = (u) * (z3_3) % p := hD.an 5 _ _ _ rfl
  have hz4_6 : (β 6) < M ∧ (β 6) % p = rp (β 5) := hD.an 6 _ _ _ rfl
  have hz4_7 : (β 7) < M ∧ (β 7) % p = (β 2) * (β 6) % p := hD.an 7 _ _ _ rfl
  replace hW := grown_trans hW hD.gr
  clear hD
  simp only [finAct, putAll, valsFrom, Plan.value, Act.put, List.setIfInBounds_toArray, List.set_cons_zero, List.set_cons_succ]
  replace hGl := hGl0.grown hW
  generalize β (0 + 1 + 1 + 1 + 1 + 1 + 1 + 1 + 1) = b5 at *
  generalize β (0 + 1 + 1) = z4_2 at *
  generalize β (0 + 1 + 1 + 1 + 1 + 1) = z4_5 at *
  generalize β (0 + 1 + 1 + 1 + 1 + 1 + 1) = z4_6 at *
  generalize β (0 + 1 + 1 + 1 + 1 + 1 + 1 + 1) = z4_7 at *
  have hq4_2 := Hid.of hz4_2.2
  replace hz4_2 := hz4_2.1
  have hq4_5 := Hid.of hz4_5.2
  replace hz4_5 := hz4_5.1
  have hq4_6 := Hid.of hz4_6.2
  replace hz4_6 := hz4_6.1
  have hq4_7 := Hid.of hz4_7.2
  replace hz4_7 := hz4_7.1
  repeat ((fail_if_success (with_reducible show Code.wp _ (Code.region _ _ _) _ _ _)); go_step)
  replace hr_b0 := rangeAt_grown hr_b0 (gdrew w4)
  replace hr_b1 := rangeAt_grown hr_b1 (gdrew w4)
  replace hr_b3 := rangeAt_grown hr_b3 (gdrew w4)
  replace hr_b4 := rangeAt_grown hr_b4 (gdrew w4)
  replace hr_b5 := rangeAt_grown hr_b5 (gdrew w4)
  replace ht_b2 := there_grown ht_b2 (gdrew w4)
  replace ht_b3 := there_grown ht_b3 (gdrew w4)
  replace ht_b4 := there_grown ht_b4 (gdrew w4)
  replace ht_b5 := there_grown ht_b5 (gdrew w4)
  replace hW := grown_trans hW (gdrew w4)
  replace hGl := hGl0.grown hW
  refine wp_loose [.val (numV (v)), .val (numV (z4_7)), .any (fun z => numV (z)) [] (fun l z => z < M ∧ z % p = (z4_7) ^ (2 ^ 1) % p), .any (fun z => numV (z)) [2] (fun l z => z < M ∧ z % p = (v) * (l.getD 0 0) % p), .new 66 4, .put 4 3 (fun z => nl (z))] (by kernel_rfl) (by kernel_rfl) (fun β => ?_) (fun β w5 hD => ?_)
  · refine Obs.cons (Ob.load (b1) 0 (nl (v)) rfl rfl (by kernel_rfl) hr_b1 Tryd.underlying66 rfl (by rw [nl_length]; exact infoN)) ?_
    refine Obs.cons (Ob.load (b5) 0 (nl (z4_7)) rfl rfl (by kernel_rfl) hr_b5 Tryd.underlying66 rfl (by rw [nl_length]; exact infoN)) ?_
    refine Obs.cons (Ob.any 58 #[numV (z4_7), .int .i64 (1)] rfl (fun w => by kernel_rfl) (fun hk w hg => squared_num (z4_7) 1 hz4_7 (by decide) w)) ?_
    refine Obs.cons (Ob.any 52 #[numV (v), numV (β 2)] rfl (fun w => by kernel_rfl) (fun hk w hg => times_num (v) (β 2) hv (hk 2 _ _ _ rfl (bindsTo_spec (by kernel_rfl))).1 w)) ?_
    refine Obs.cons (Ob.new _ rfl rfl zeroN (by simp [nl_length])) ?_
    refine Obs.cons (Ob.put 66 rfl rfl rfl (by kernel_rfl) (by kernel_rfl) (by rw [nl_length]; exact infoN) (nl_one _)) ?_
    exact Obs.nil
  replace hr_b0 := rangeAt_grown hr_b0 hD.gr
  replace hr_b1 := rangeAt_grown hr_b1 hD.gr
  replace hr_b3 := rangeAt_grown hr_b3 hD.gr
  replace hr_b4 := rangeAt_grown hr_b4 hD.gr
  replace hr_b5 := rangeAt_grown hr_b5 hD.gr
  replace ht_b2 := there_grown ht_b2 hD.gr
  replace ht_b3 := there_grown ht_b3 hD.gr
  replace ht_b4 := there_grown ht_b4 hD.gr
  replace ht_b5 := there_grown ht_b5 hD.gr
  obtain ⟨hf_b6, ht_b6⟩ := hD.nw 4 _ _ rfl
  have hr_b6 : w5.rangeAt (β 4) 0 (nl (β 3)) := hD.rg 5 4 3 (fun z => nl (z)) rfl
  replace hf_b6 := Nat.le_trans hW.2.2 hf_b6
  have hz5_2 : (β 2) < M ∧ (β 2) % p = (z4_7) ^ (2 ^ 1) % p := hD.an 2 _ _ _ rfl
  have hz5_3 : (β 3) < M ∧ (β 3) % p = (v) * (β 2) % p := hD.an 3 _ _ _ rfl
  replace hW := grown_trans hW hD.gr
  clear hD
  simp only [finAct, putAll, valsFrom, Plan.value, Act.put, List.setIfInBounds_toArray, List.set_cons_zero, List.set_cons_succ]
  replace hGl := hGl0.grown hW
  generalize β (0 + 1 + 1 + 1 + 1) = b6 at *
  generalize β (0 + 1 + 1) = z5_2 at *
  generalize β (0 + 1 + 1 + 1) = z5_3 at *
  have hq5_2 := Hid.of hz5_2.2
  replace hz5_2 := hz5_2.1
  have hq5_3 := Hid.of hz5_3.2
  replace hz5_3 := hz5_3.1
  repeat ((fail_if_success (with_reducible show Code.wp _ (Code.region _ _ _) _ _ _)); go_step)
  obtain ⟨hs1, hs2, hs3⟩ := root_chain hq2_1.out hq2_3.out hq3_1.out hq3_3.out hq4_2.out hq4_5.out hq4_6.out hq4_7.out hq5_2.out hq5_3.out
  replace hs1 := Hid.of hs1
  replace hs2 := Hid.of hs2
  replace hs3 := Hid.of hs3
  clear hq2_1 hq2_3 hq3_1 hq3_3 hq4_2 hq4_5 hq4_6 hq4_7 hq5_2 hq5_3
  by_cases hA0 : z5_3 % p = u % p
  · have hA := Hid.of hA0
    clear hA0
    refine wp_plain [.val (numV (z5_3)), .val (numV (u)), .val (.bool true), .imm (.bool true)] (by kernel_rfl) (fun β => ?_) (fun β w6 hD => ?_)
    · refine Obs.cons (Ob.load (b6) 0 (nl (z5_3)) rfl rfl (by kernel_rfl) hr_b6 Tryd.underlying66 rfl (by rw [nl_length]; exact infoN)) ?_
      refine Obs.cons (Ob.load (b0) 0 (nl (u)) rfl rfl (by kernel_rfl) hr_b0 Tryd.underlying66 rfl (by rw [nl_length]; exact infoN)) ?_
      refine Obs.cons (Ob.call 83 #[numV (z5_3), numV (u)] rfl (fun w => by kernel_rfl) (fun w hg => equals_is (z5_3) (u) hz5_3 hu true (decide_eq_true hA.out) w)) ?_
      refine Obs.cons (Ob.imm rfl (fun w => by kernel_rfl)) ?_
      exact Obs.nil
    replace hr_b0 := rangeAt_grown hr_b0 hD.gr
    replace hr_b1 := rangeAt_grown hr_b1 hD.gr
    replace hr_b3 := rangeAt_grown hr_b3 hD.gr
    replace hr_b4 := rangeAt_grown hr_b4 hD.gr
    replace hr_b5 := rangeAt_grown hr_b5 hD.gr
    replace hr_b6 := rangeAt_grown hr_b6 hD.gr
    replace ht_b2 := there_grown ht_b2 hD.gr
    replace ht_b3 := there_grown ht_b3 hD.gr
    replace ht_b4 := there_grown ht_b4 hD.gr
    replace ht_b5 := there_grown ht_b5 hD.gr
    replace ht_b6 := there_grown ht_b6 hD.gr
    replace hW := grown_trans hW hD.gr
    clear hD
    simp only [finAct, putAll, valsFrom, Plan.value, Act.put, List.setIfInBounds_toArray, List.set_cons_zero, List.set_cons_succ]
    replace hGl := hGl0.grown hW
    repeat ((fail_if_success (with_reducible show Code.wp _ (Code.region _ _ _) _ _ _)); go_step)
    refine wp_plain_fin [.val (numV (z4_7)), .fin, .imm (.bool true)] (b2) 0 (fun _ => nl (z4_7)) (by kernel_rfl) (fun β => ?_) (fun β w7 hD => ?_)
    · refine Obs.cons (Ob.load (b5) 0 (nl (z4_7)) rfl rfl (by kernel_rfl) hr_b5 Tryd.underlying66 rfl (by rw [nl_length]; exact infoN)) ?_
      refine Obs.cons (Ob.fin rfl (by rw [nl_length]; exact ht_b2) rfl (by kernel_rfl) (by kernel_rfl) (by rw [nl_length]; exact infoN) (nl_one _)) ?_
      refine Obs.cons (Ob.imm rfl (fun w => by kernel_rfl)) ?_
      exact Obs.nil
    replace hr_b0 := rangeAt_grown hr_b0 hD.gr
    replace hr_b1 := rangeAt_grown hr_b1 hD.gr
    replace hr_b3 := rangeAt_grown hr_b3 hD.gr
    replace hr_b4 := rangeAt_grown hr_b4 hD.gr
    replace hr_b5 := rangeAt_grown hr_b5 hD.gr
    replace hr_b6 := rangeAt_grown hr_b6 hD.gr
    replace ht_b2 := there_grown ht_b2 hD.gr
    replace ht_b3 := there_grown ht_b3 hD.gr
    replace ht_b4 := there_grown ht_b4 hD.gr
    replace ht_b5 := there_grown ht_b5 hD.gr
    replace ht_b6 := there_grown ht_b6 hD.gr
    replace hW := grown_trans hW hD.gr
    clear hD
    simp only [finAct, putAll, valsFrom, Plan.value, Act.put, List.setIfInBounds_toArray, List.set_cons_zero, List.set_cons_succ]
    replace hGl := hGl0.grown hW
    have hs7 := World.rangeAt_setCells_same w7 (b2) 0 (nl (z4_7)) (by rw [nl_length]; exact ht_b2)
    replace hW := grown_setCells hf_b2 (nl (z4_7)) 0 hW
    generalize w7.setCells (b2) 0 (nl (z4_7)) = w7s at *
    repeat go_step
    refine bodyPost_ret (v := .tuple #[numV (z4_7), .bool true]) (result_cell_tmp Tryd.results55 _ _ (b2) (nl (z4_7)) (.bool true) ?hp ?hv hs7 Tryd.underlying66 rfl (by rw [nl_length]; exact infoN)) ?hd ?_
    case hp => rfl
    case hv => rfl
    case hd => rfl
    exact ⟨.inl ⟨rok_of_found hs1.out (.inl hA.out), z4_7, rfl, hz4_7, hs2.out.symm.trans hA.out, hs3.out⟩, hW⟩
  · have hA := Hid.of hA0
    clear hA0
    refine wp_plain [.val (numV (z5_3)), .val (numV (u)), .val (.bool false), .imm (.bool false)] (by kernel_rfl) (fun β => ?_) (fun β w6 hD => ?_)
    · refine Obs.cons (Ob.load (b6) 0 (nl (z5_3)) rfl rfl (by kernel_rfl) hr_b6 Tryd.underlying66 rfl (by rw [nl_length]; exact infoN)) ?_
      refine Obs.cons (Ob.load (b0) 0 (nl (u)) rfl rfl (by kernel_rfl) hr_b0 Tryd.underlying66 rfl (by rw [nl_length]; exact infoN)) ?_
      refine Obs.cons (Ob.call 83 #[numV (z5_3), numV (u)] rfl (fun w => by kernel_rfl) (fun w hg => equals_is (z5_3) (u) hz5_3 hu false (decide_eq_false hA.out) w)) ?_
      refine Obs.cons (Ob.imm rfl (fun w => by kernel_rfl)) ?_
      exact Obs.nil
    replace hr_b0 := rangeAt_grown hr_b0 hD.gr
    replace hr_b1 := rangeAt_grown hr_b1 hD.gr
    replace hr_b3 := rangeAt_grown hr_b3 hD.gr
    replace hr_b4 := rangeAt_grown hr_b4 hD.gr
    replace hr_b5 := rangeAt_grown hr_b5 hD.gr
    replace hr_b6 := rangeAt_grown hr_b6 hD.gr
    replace ht_b2 := there_grown ht_b2 hD.gr
    replace ht_b3 := there_grown ht_b3 hD.gr
    replace ht_b4 := there_grown ht_b4 hD.gr
    replace ht_b5 := there_grown ht_b5 hD.gr
    replace ht_b6 := there_grown ht_b6 hD.gr
    replace hW := grown_trans hW hD.gr
    clear hD
    simp only [finAct, putAll, valsFrom, Plan.value, Act.put, List.setIfInBounds_toArray, List.set_cons_zero, List.set_cons_succ]
    replace hGl := hGl0.grown hW
    repeat ((fail_if_success (with_reducible show Code.wp _ (Code.region _ _ _) _ _ _)); go_step)
    by_cases hB0 : z5_3 % p = ng u
    · have hB := Hid.of hB0
      clear hB0
      replace hr_b0 := rangeAt_grown hr_b0 (gdrew w6)
      replace hr_b1 := rangeAt_grown hr_b1 (gdrew w6)
      replace hr_b3 := rangeAt_grown hr_b3 (gdrew w6)
      replace hr_b4 := rangeAt_grown hr_b4 (gdrew w6)
      replace hr_b5 := rangeAt_grown hr_b5 (gdrew w6)
      replace hr_b6 := rangeAt_grown hr_b6 (gdrew w6)
      replace ht_b2 := there_grown ht_b2 (gdrew w6)
      replace ht_b3 := there_grown ht_b3 (gdrew w6)
      replace ht_b4 := there_grown ht_b4 (gdrew w6)
      replace ht_b5 := there_grown ht_b5 (gdrew w6)
      replace ht_b6 := there_grown ht_b6 (gdrew w6)
      replace hW := grown_trans hW (gdrew w6)
      replace hGl := hGl0.grown hW
      refine wp_loose [.val (numV (z5_3)), .val (numV (u)), .any (fun z => numV (z)) [] (fun l z => z < M ∧ z % p = ng (u)), .val (.bool true), .imm (.bool true)] (by kernel_rfl) (by kernel_rfl) (fun β => ?_) (fun β w7 hD => ?_)
      · refine Obs.cons (Ob.load (b6) 0 (nl (z5_3)) rfl rfl (by kernel_rfl) hr_b6 Tryd.underlying66 rfl (by rw [nl_length]; exact infoN)) ?_
        refine Obs.cons (Ob.load (b0) 0 (nl (u)) rfl rfl (by kernel_rfl) hr_b0 Tryd.underlying66 rfl (by rw [nl_length]; exact infoN)) ?_
        refine Obs.cons (Ob.any 57 #[numV (u)] rfl (fun w => by kernel_rfl) (fun hk w hg => negated_num (u) hu w)) ?_
        refine Obs.cons (Ob.call' 83 #[numV (z5_3), numV (β 2)] rfl (fun w => by kernel_rfl) (fun hk w hg => equals_is (z5_3) (β 2) hz5_3 (hk 2 _ _ _ rfl (bindsTo_spec (by kernel_rfl))).1 true (decide_eq_true (hB.out.trans (hk 2 _ _ _ rfl (bindsTo_spec (by kernel_rfl))).2.symm)) w)) ?_
        refine Obs.cons (Ob.imm rfl (fun w => by kernel_rfl)) ?_
        exact Obs.nil
      replace hr_b0 := rangeAt_grown hr_b0 hD.gr
      replace hr_b1 := rangeAt_grown hr_b1 hD.gr
      replace hr_b3 := rangeAt_grown hr_b3 hD.gr
      replace hr_b4 := rangeAt_grown hr_b4 hD.gr
      replace hr_b5 := rangeAt_grown hr_b5 hD.gr
      replace hr_b6 := rangeAt_grown hr_b6 hD.gr
      replace ht_b2 := there_grown ht_b2 hD.gr
      replace ht_b3 := there_grown ht_b3 hD.gr
      replace ht_b4 := there_grown ht_b4 hD.gr
      replace ht_b5 := there_grown ht_b5 hD.gr
      replace ht_b6 := there_grown ht_b6 hD.gr
      have hz7_2 : (β 2) < M ∧ (β 2) % p = ng (u) := hD.an 2 _ _ _ rfl
      replace hW := grown_trans hW hD.gr
      clear hD
      simp only [finAct, putAll, valsFrom, Plan.value, Act.put, List.setIfInBounds_toArray, List.set_cons_zero, List.set_cons_succ]
      replace hGl := hGl0.grown hW
      generalize β (0 + 1 + 1) = z7_2 at *
      have hq7_2 := Hid.of hz7_2.2
      replace hz7_2 := hz7_2.1
      repeat ((fail_if_success (with_reducible show Code.wp _ (Code.region _ _ _) _ _ _)); go_step)
      refine wp_plain_fin [.val (numV (z4_7)), .val (numV (Im)), .any (fun z => numV (z)) [] (fun l z => z < M ∧ z % p = (z4_7) * (Im) % p), .fin, .imm (.bool true)] (b2) 0 (fun β => nl (β 2)) (by kernel_rfl) (fun β => ?_) (fun β w8 hD => ?_)
      · refine Obs.cons (Ob.load (b5) 0 (nl (z4_7)) rfl rfl (by kernel_rfl) hr_b5 Tryd.underlying66 rfl (by rw [nl_length]; exact infoN)) ?_
        refine Obs.cons (Ob.load (4) 0 (nl (Im)) rfl rfl (by kernel_rfl) hGl.g1.im Tryd.underlying66 rfl (by rw [nl_length]; exact infoN)) ?_
        refine Obs.cons (Ob.any 52 #[numV (z4_7), numV (Im)] rfl (fun w => by kernel_rfl) (fun hk w hg => times_num (z4_7) (Im) hz4_7 Im_M w)) ?_
        refine Obs.cons (Ob.fin rfl (by rw [nl_length]; exact ht_b2) rfl (by kernel_rfl) (by kernel_rfl) (by rw [nl_length]; exact infoN) (nl_one _)) ?_
        refine Obs.cons (Ob.imm rfl (fun w => by kernel_rfl)) ?_
        exact Obs.nil
      replace hr_b0 := rangeAt_grown hr_b0 hD.gr
      replace hr_b1 := rangeAt_grown hr_b1 hD.gr
      replace hr_b3 := rangeAt_grown hr_b3 hD.gr
      replace hr_b4 := rangeAt_grown hr_b4 hD.gr
      replace hr_b5 := rangeAt_grown hr_b5 hD.gr
      replace hr_b6 := rangeAt_grown hr_b6 hD.gr
      replace ht_b2 := there_grown ht_b2 hD.gr
      replace ht_b3 := there_grown ht_b3 hD.gr
      replace ht_b4 := there_grown ht_b4 hD.gr
      replace ht_b5 := there_grown ht_b5 hD.gr
      replace ht_b6 := there_grown ht_b6 hD.gr
      have hz8_2 : (β 2) < M ∧ (β 2) % p = (z4_7) * (Im) % p := hD.an 2 _ _ _ rfl
      replace hW := grown_trans hW hD.gr
      clear hD
      simp only [finAct, putAll, valsFrom, Plan.value, Act.put, List.setIfInBounds_toArray, List.set_cons_zero, List.set_cons_succ]
      replace hGl := hGl0.grown hW
      generalize β (0 + 1 + 1) = z8_2 at *
      have hq8_2 := Hid.of hz8_2.2
      replace hz8_2 := hz8_2.1
      have hs8 := World.rangeAt_setCells_same w8 (b2) 0 (nl (z8_2)) (by rw [nl_length]; exact ht_b2)
      replace hW := grown_setCells hf_b2 (nl (z8_2)) 0 hW
      generalize w8.setCells (b2) 0 (nl (z8_2)) = w8s at *
      repeat go_step
      refine bodyPost_ret (v := .tuple #[numV (z8_2), .bool true]) (result_cell_tmp Tryd.results55 _ _ (b2) (nl (z8_2)) (.bool true) ?hp ?hv hs8 Tryd.underlying66 rfl (by rw [nl_length]; exact infoN)) ?hd ?_
      case hp => rfl
      case hv => rfl
      case hd => rfl
      exact ⟨.inl ⟨rok_of_found hs1.out (.inr hB.out), z8_2, rfl, hz8_2, root_turn (hs2.out.symm.trans hB.out) hq8_2.out, fun hu => by rw [hq8_2.out, Nat.mul_mod, hs3.out hu]; simp⟩, hW⟩
    · have hB := Hid.of hB0
      clear hB0
      replace hr_b0 := rangeAt_grown hr_b0 (gdrew w6)
      replace hr_b1 := rangeAt_grown hr_b1 (gdrew w6)
      replace hr_b3 := rangeAt_grown hr_b3 (gdrew w6)
      replace hr_b4 := rangeAt_grown hr_b4 (gdrew w6)
      replace hr_b5 := rangeAt_grown hr_b5 (gdrew w6)
      replace hr_b6 := rangeAt_grown hr_b6 (gdrew w6)
      replace ht_b2 := there_grown ht_b2 (gdrew w6)
      replace ht_b3 := there_grown ht_b3 (gdrew w6)
      replace ht_b4 := there_grown ht_b4 (gdrew w6)
      replace ht_b5 := there_grown ht_b5 (gdrew w6)
      replace ht_b6 := there_grown ht_b6 (gdrew w6)
      replace hW := grown_trans hW (gdrew w6)
      replace hGl := hGl0.grown hW
      refine wp_loose [.val (numV (z5_3)), .val (numV (u)), .any (fun z => numV (z)) [] (fun l z => z < M ∧ z % p = ng (u)), .val (.bool false), .imm (.bool false)] (by kernel_rfl) (by kernel_rfl) (fun β => ?_) (fun β w7 hD => ?_)
      · refine Obs.cons (Ob.load (b6) 0 (nl (z5_3)) rfl rfl (by kernel_rfl) hr_b6 Tryd.underlying66 rfl (by rw [nl_length]; exact infoN)) ?_
        refine Obs.cons (Ob.load (b0) 0 (nl (u)) rfl rfl (by kernel_rfl) hr_b0 Tryd.underlying66 rfl (by rw [nl_length]; exact infoN)) ?_
        refine Obs.cons (Ob.any 57 #[numV (u)] rfl (fun w => by kernel_rfl) (fun hk w hg => negated_num (u) hu w)) ?_
        refine Obs.cons (Ob.call' 83 #[numV (z5_3), numV (β 2)] rfl (fun w => by kernel_rfl) (fun hk w hg => equals_is (z5_3) (β 2) hz5_3 (hk 2 _ _ _ rfl (bindsTo_spec (by kernel_rfl))).1 false (decide_eq_false (fun e => hB.out (e.trans (hk 2 _ _ _ rfl (bindsTo_spec (by kernel_rfl))).2))) w)) ?_
        refine Obs.cons (Ob.imm rfl (fun w => by kernel_rfl)) ?_
        exact Obs.nil
      replace hr_b0 := rangeAt_grown hr_b0 hD.gr
      replace hr_b1 := rangeAt_grown hr_b1 hD.gr
      replace hr_b3 := rangeAt_grown hr_b3 hD.gr
      replace hr_b4 := rangeAt_grown hr_b4 hD.gr
      replace hr_b5 := rangeAt_grown hr_b5 hD.gr
      replace hr_b6 := rangeAt_grown hr_b6 hD.gr
      replace ht_b2 := there_grown ht_b2 hD.gr
      replace ht_b3 := there_grown ht_b3 hD.gr
      replace ht_b4 := there_grown ht_b4 hD.gr
      replace ht_b5 := there_grown ht_b5 hD.gr
      replace ht_b6 := there_grown ht_b6 hD.gr
      have hz7_2 : (β 2) < M ∧ (β 2) % p = ng (u) := hD.an 2 _ _ _ rfl
      replace hW := grown_trans hW hD.gr
      clear hD
      simp only [finAct, putAll, valsFrom, Plan.value, Act.put, List.setIfInBounds_toArray, List.set_cons_zero, List.set_cons_succ]
      replace hGl := hGl0.grown hW
      generalize β (0 + 1 + 1) = z7_2 at *
      have hq7_2 := Hid.of hz7_2.2
      replace hz7_2 := hz7_2.1
      repeat ((fail_if_success (with_reducible show Code.wp _ (Code.region _ _ _) _ _ _)); go_step)
      refine wp_plain_fin [.imm (numV (0)), .fin, .imm (.bool false)] (b2) 0 (fun _ => nl (0)) (by kernel_rfl) (fun β => ?_) (fun β w8 hD => ?_)
      · refine Obs.cons (Ob.imm rfl (fun w => exec_build rfl (by kernel_rfl) (build_n0 w))) ?_
        refine Obs.cons (Ob.fin rfl (by rw [nl_length]; exact ht_b2) rfl (by kernel_rfl) (by kernel_rfl) (by rw [nl_length]; exact infoN) (nl_one _)) ?_
        refine Obs.cons (Ob.imm rfl (fun w => by kernel_rfl)) ?_
        exact Obs.nil
      replace hr_b0 := rangeAt_grown hr_b0 hD.gr
      replace hr_b1 := rangeAt_grown hr_b1 hD.gr
      replace hr_b3 := rangeAt_grown hr_b3 hD.gr
      replace hr_b4 := rangeAt_grown hr_b4 hD.gr
      replace hr_b5 := rangeAt_grown hr_b5 hD.gr
      replace hr_b6 := rangeAt_grown hr_b6 hD.gr
      replace ht_b2 := there_grown ht_b2 hD.gr
      replace ht_b3 := there_grown ht_b3 hD.gr
      replace ht_b4 := there_grown ht_b4 hD.gr
      replace ht_b5 := there_grown ht_b5 hD.gr
      replace ht_b6 := there_grown ht_b6 hD.gr
      replace hW := grown_trans hW hD.gr
      clear hD
      simp only [finAct, putAll, valsFrom, Plan.value, Act.put, List.setIfInBounds_toArray, List.set_cons_zero, List.set_cons_succ]
      replace hGl := hGl0.grown hW
      have hs8 := World.rangeAt_setCells_same w8 (b2) 0 (nl (0)) (by rw [nl_length]; exact ht_b2)
      replace hW := grown_setCells hf_b2 (nl (0)) 0 hW
      generalize w8.setCells (b2) 0 (nl (0)) = w8s at *
      repeat go_step
      refine bodyPost_ret (v := .tuple #[numV (0), .bool false]) (result_cell_tmp Tryd.results55 _ _ (b2) (nl (0)) (.bool false) ?hp ?hv hs8 Tryd.underlying66 rfl (by rw [nl_length]; exact infoN)) ?hd ?_
      case hp => rfl
      case hv => rfl
      case hd => rfl
      exact ⟨.inr ⟨rok_none hs1.out hA.out hB.out, rfl⟩, hW⟩

end Go.Proofs.YtkegcilcapnpdaaDoor

namespace Go.Proofs.YtkegcilcapnpdaaDoor
open Go.RowKit Go.Shelf FieldNum

theorem rootOfRatio_yes (u v : Nat) (hu : u < M) (hv : v < M) (h : rok u v) (w : World) (hGl0 : G1 w) :
    Calls Tryd.prog 55 #[numV u, numV v] w fun e w' => (∃ z, e = .returned (.tuple #[numV z, .bool true]) ∧ z < M ∧ v * (z * z) % p = u % p ∧ (u % p = 0 → z % p = 0)) ∧ Grown w w' :=
  (rootOfRatio_num u v hu hv w hGl0).mono fun _ _ ⟨a, b⟩ => ⟨a.elim (fun x => x.2) (fun x => absurd h x.1), b⟩
theorem rootOfRatio_no (u v : Nat) (hu : u < M) (hv : v < M) (h : ¬ rok u v) (w : World) (hGl0 : G1 w) :
    Calls Tryd.prog 55 #[numV u, numV v] w fun e w' => e = .returned (.tuple #[numV 0, .bool false]) ∧ Grown w w' :=
  (rootOfRatio_num u v hu hv w hGl0).mono fun _ _ ⟨a, b⟩ => ⟨a.elim (fun x => absurd x.1 h) (fun x => x.2), b⟩

set_option maxRecDepth 100000 in
set_option maxHeartbeats 2000000 in
theorem SqrtRatio_no (u v : Nat) (hu : u < M) (hv : v < M) (h : ¬ rok u v) (w : World) (hGl0 : G1 w) :
    Calls Tryd.prog 18 #[bv u, bv v] w fun e w' => e = .returned (.tuple #[bv 0, .bool false]) ∧ Grown w w' := by
  have hW := Grown.refl w
  have hGl := hGl0
  go_enter Tryd.func18, Tryd.ntmps18
  repeat ((fail_if_success (with_reducible show Code.wp _ (Code.region _ _ _) _ _ _)); go_step)
  refine wp_plain [.box 23 (bl (u)), .box 23 (bl (v)), .new 23 32, .imm (.bool false)] (by kernel_rfl) (fun β => ?_) (fun β w1 hD => ?_)
  · refine Obs.cons (Ob.box rfl rfl (by kernel_rfl)) ?_
    refine Obs.cons (Ob.box rfl rfl (by kernel_rfl)) ?_
    refine Obs.cons (Ob.new _ rfl rfl zero32.1 (by simp [bl_length])) ?_
    refine Obs.cons (Ob.imm rfl (fun w => by kernel_rfl)) ?_
    exact Obs.nil
  obtain ⟨hf_b0, hr_b0⟩ := hD.bx 0 _ _ rfl
  replace hf_b0 := Nat.le_trans hW.2.2 hf_b0
  obtain ⟨hf_b1, hr_b1⟩ := hD.bx 1 _ _ rfl
  replace hf_b1 := Nat.le_trans hW.2.2 hf_b1
  obtain ⟨hf_b2, ht_b2⟩ := hD.nw 2 _ _ rfl
  replace hf_b2 := Nat.le_trans hW.2.2 hf_b2
  replace hW := grown_trans hW hD.gr
  clear hD
  simp only [finAct, putAll, valsFrom, Plan.value, Act.put, List.setIfInBounds_toArray, List.set_cons_zero, List.set_cons_succ]
  replace hGl := hGl0.grown hW
  generalize β 0 = b0 at *
  generalize β (0 + 1) = b1 at *
  generalize β (0 + 1 + 1) = b2 at *
  repeat ((fail_if_success (with_reducible show Code.wp _ (Code.region _ _ _) _ _ _)); go_step)
  replace hr_b0 := rangeAt_grown hr_b0 (gdrew w1)
  replace hr_b1 := rangeAt_grown hr_b1 (gdrew w1)
  replace ht_b2 := there_grown ht_b2 (gdrew w1)
  replace hW := grown_trans hW (gdrew w1)
  replace hGl := hGl0.grown hW
  refine wp_loose [.val (bv (u)), .val (numV (u)), .val (bv (v)), .val (numV (v)), .val (.tuple #[numV (0), .bool false]), .imm (.tuple #[numV (0), .bool false]), .imm (numV (0)), .imm (.bool false), .new 66 4, .put 8 8 (fun _ => nl (0)), .imm (.bool false)] (by kernel_rfl) (by kernel_rfl) (fun β => ?_) (fun β w2 hD => ?_)
  · refine Obs.cons (Ob.load (b0) 0 (bl (u)) rfl rfl (by kernel_rfl) hr_b0 Tryd.underlying23 rfl (by rw [bl_length]; exact info32)) ?_
    refine Obs.cons (Ob.call 50 #[bv (u)] rfl (fun w => by kernel_rfl) (fun w hg => load_num (u) w)) ?_
    refine Obs.cons (Ob.load (b1) 0 (bl (v)) rfl rfl (by kernel_rfl) hr_b1 Tryd.underlying23 rfl (by rw [bl_length]; exact info32)) ?_
    refine Obs.cons (Ob.call 50 #[bv (v)] rfl (fun w => by kernel_rfl) (fun w hg => load_num (v) w)) ?_
    refine Obs.cons (Ob.call 55 #[numV (u), numV (v)] rfl (fun w => by kernel_rfl) (fun w hg => rootOfRatio_no (u) (v) hu hv h w (hGl.grown hg).g1)) ?_
    refine Obs.cons (Ob.imm rfl (fun w => by kernel_rfl)) ?_
    refine Obs.cons (Ob.imm rfl (fun w => by kernel_rfl)) ?_
    refine Obs.cons (Ob.imm rfl (fun w => by kernel_rfl)) ?_
    refine Obs.cons (Ob.new _ rfl rfl zeroN (by simp [nl_length])) ?_
    refine Obs.cons (Ob.put 66 rfl rfl rfl (by kernel_rfl) (by kernel_rfl) (by rw [nl_length]; exact infoN) (nl_one _)) ?_
    refine Obs.cons (Ob.imm rfl (fun w => by kernel_rfl)) ?_
    exact Obs.nil
  replace hr_b0 := rangeAt_grown hr_b0 hD.gr
  replace hr_b1 := rangeAt_grown hr_b1 hD.gr
  replace ht_b2 := there_grown ht_b2 hD.gr
  obtain ⟨hf_b3, ht_b3⟩ := hD.nw 8 _ _ rfl
  have hr_b3 : w2.rangeAt (β 8) 0 (nl (0)) := hD.rg 9 8 8 (fun _ => nl (0)) rfl
  replace hf_b3 := Nat.le_trans hW.2.2 hf_b3
  replace hW := grown_trans hW hD.gr
  clear hD
  simp only [finAct, putAll, valsFrom, Plan.value, Act.put, List.setIfInBounds_toArray, List.set_cons_zero, List.set_cons_succ]
  replace hGl := hGl0.grown hW
  generalize β (0 + 1 + 1 + 1 + 1 + 1 + 1 + 1 + 1) = b3 at *
  repeat ((fail_if_success (with_reducible show Code.wp _ (Code.region _ _ _) _ _ _)); go_step)
  refine wp_plain [.imm (.bool false), .imm (.bool true)] (by kernel_rfl) (fun β => ?_) (fun β w3 hD => ?_)
  · refine Obs.cons (Ob.imm rfl (fun w => by kernel_rfl)) ?_
    refine Obs.cons (Ob.imm rfl (fun w => by kernel_rfl)) ?_
    exact Obs.nil
  replace hr_b0 := rangeAt_grown hr_b0 hD.gr
  replace hr_b1 := rangeAt_grown hr_b1 hD.gr
  replace hr_b3 := rangeAt_grown hr_b3 hD.gr
  replace ht_b2 := there_grown ht_b2 hD.gr
  replace ht_b3 := there_grown ht_b3 hD.gr
  replace hW := grown_trans hW hD.gr
  clear hD
  simp only [finAct, putAll, valsFrom, Plan.value, Act.put, List.setIfInBounds_toArray, List.set_cons_zero, List.set_cons_succ]
  replace hGl := hGl0.grown hW
  repeat ((fail_if_success (with_reducible show Code.wp _ (Code.region _ _ _) _ _ _)); go_step)
  refine wp_plain_fin [.imm (bv (0)), .fin, .imm (.bool false)] (b2) 0 (fun _ => bl (0)) (by kernel_rfl) (fun β => ?_) (fun β w4 hD => ?_)
  · refine Obs.cons (Ob.imm rfl (fun w => exec_build rfl (by kernel_rfl) (build_b0 w))) ?_
    refine Obs.cons (Ob.fin rfl (by rw [bl_length]; exact ht_b2) rfl (by kernel_rfl) (by kernel_rfl) (by rw [bl_length]; exact info32) (bl_one _)) ?_
    refine Obs.cons (Ob.imm rfl (fun w => by kernel_rfl)) ?_
    exact Obs.nil
  replace hr_b0 := rangeAt_grown hr_b0 hD.gr
  replace hr_b1 := rangeAt_grown hr_b1 hD.gr
  replace hr_b3 := rangeAt_grown hr_b3 hD.gr
  replace ht_b2 := there_grown ht_b2 hD.gr
  replace ht_b3 := there_grown ht_b3 hD.gr
  replace hW := grown_trans hW hD.gr
  clear hD
  simp only [finAct, putAll, valsFrom, Plan.value, Act.put, List.setIfInBounds_toArray, List.set_cons_zero, List.set_cons_succ]
  replace hGl := hGl0.grown hW
  have hs4 := World.rangeAt_setCells_same w4 (b2) 0 (bl (0)) (by rw [bl_length]; exact ht_b2)
  replace hW := grown_setCells hf_b2 (bl (0)) 0 hW
  generalize w4.setCells (b2) 0 (bl (0)) = w4s at *
  repeat go_step
  refine bodyPost_ret (v := .tuple #[bv (0), .bool false]) (result_cell_tmp Tryd.results18 _ _ (b2) _ (.bool false) ?hp ?hv hs4 Tryd.underlying23 rfl (by rw [bl_length]; exact info32)) ?hd ?_
  case hp => rfl
  case hv => rfl
  case hd => rfl
  exact ⟨rfl, hW⟩

set_option maxRecDepth 100000 in
set_option maxHeartbeats 2000000 in
theorem SqrtRatio_yes (u v : Nat) (hu : u < M) (hv : v < M) (h : rok u v) (w : World) (hGl0 : G1 w) :
    Calls Tryd.prog 18 #[bv u, bv v] w fun e w' => e = .returned (.tuple #[bv (rt u v), .bool true]) ∧ Grown w w' := by
  have hW := Grown.refl w
  have hGl := hGl0
  go_enter Tryd.func18, Tryd.ntmps18
  repeat ((fail_if_success (with_reducible show Code.wp _ (Code.region _ _ _) _ _ _)); go_step)
  refine wp_plain [.box 23 (bl (u)), .box 23 (bl (v)), .new 23 32, .imm (.bool false)] (by kernel_rfl) (fun β => ?_) (fun β w1 hD => ?_)
  · refine Obs.cons (Ob.box rfl rfl (by kernel_rfl)) ?_
    refine Obs.cons (Ob.box rfl rfl (by kernel_rfl)) ?_
    refine Obs.cons (Ob.new _ rfl rfl zero32.1 (by simp [bl_length])) ?_
    refine Obs.cons (Ob.imm rfl (fun w => by kernel_rfl)) ?_
    exact Obs.nil
  obtain ⟨hf_b0, hr_b0⟩ := hD.bx 0 _ _ rfl
  replace hf_b0 := Nat.le_trans hW.2.2 hf_b0
  obtain ⟨hf_b1, hr_b1⟩ := hD.bx 1 _ _ rfl
  replace hf_b1 := Nat.le_trans hW.2.2 hf_b1
  obtain ⟨hf_b2, ht_b2⟩ := hD.nw 2 _ _ rfl
  replace hf_b2 := Nat.le_trans hW.2.2 hf_b2
  replace hW := grown_trans hW hD.gr
  clear hD
  simp only [finAct, putAll, valsFrom, Plan.value, Act.put, List.setIfInBounds_toArray, List.set_cons_zero, List.set_cons_succ]
  replace hGl := hGl0.grown hW
  generalize β 0 = b0 at *
  generalize β (0 + 1) = b1 at *
  generalize β (0 + 1 + 1) = b2 at *
  repeat ((fail_if_success (with_reducible show Code.wp _ (Code.region _ _ _) _ _ _)); go_step)
  replace hr_b0 := rangeAt_grown hr_b0 (gdrew w1)
  replace hr_b1 := rangeAt_grown hr_b1 (gdrew w1)
  replace ht_b2 := there_grown ht_b2 (gdrew w1)
  replace hW := grown_trans hW (gdrew w1)
  replace hGl := hGl0.grown hW
  refine wp_loose [.val (bv (u)), .val (numV (u)), .val (bv (v)), .val (numV (v)), .any (fun z => .tuple #[numV (z), .bool true]) [] (fun l z => z < M ∧ v * (z * z) % p = u % p ∧ (u % p = 0 → z % p = 0)), .any (fun z => .tuple #[numV (z), .bool true]) [4] (fun l b => b = l.getD 0 0), .any (fun z => numV (z)) [5] (fun l b => b = l.getD 0 0), .imm (.bool true), .new 66 4, .put 8 6 (fun z => nl (z)), .imm (.bool true)] (by kernel_rfl) (by kernel_rfl) (fun β => ?_) (fun β w2 hD => ?_)
  · refine Obs.cons (Ob.load (b0) 0 (bl (u)) rfl rfl (by kernel_rfl) hr_b0 Tryd.underlying23 rfl (by rw [bl_length]; exact info32)) ?_
    refine Obs.cons (Ob.call 50 #[bv (u)] rfl (fun w => by kernel_rfl) (fun w hg => load_num (u) w)) ?_
    refine Obs.cons (Ob.load (b1) 0 (bl (v)) rfl rfl (by kernel_rfl) hr_b1 Tryd.underlying23 rfl (by rw [bl_length]; exact info32)) ?_
    refine Obs.cons (Ob.call 50 #[bv (v)] rfl (fun w => by kernel_rfl) (fun w hg => load_num (v) w)) ?_
    refine Obs.cons (Ob.any 55 #[numV (u), numV (v)] rfl (fun w => by kernel_rfl) (fun hk w hg => rootOfRatio_yes (u) (v) hu hv h w (hGl.grown hg).g1)) ?_
    refine Obs.cons (Ob.der (β 4) rfl (fun _ w => by kernel_rfl) (fun _ => rfl)) ?_
    refine Obs.cons (Ob.der (β 5) rfl (fun _ w => by kernel_rfl) (fun _ => rfl)) ?_
    refine Obs.cons (Ob.imm rfl (fun w => by kernel_rfl)) ?_
    refine Obs.cons (Ob.new _ rfl rfl zeroN (by simp [nl_length])) ?_
    refine Obs.cons (Ob.put 66 rfl rfl rfl (by kernel_rfl) (by kernel_rfl) (by rw [nl_length]; exact infoN) (nl_one _)) ?_
    refine Obs.cons (Ob.imm rfl (fun w => by kernel_rfl)) ?_
    exact Obs.nil
  replace hr_b0 := rangeAt_grown hr_b0 hD.gr
  replace hr_b1 := rangeAt_grown hr_b1 hD.gr
  replace ht_b2 := there_grown ht_b2 hD.gr
  obtain ⟨hf_b3, ht_b3⟩ := hD.nw 8 _ _ rfl
  have hr_b3 : w2.rangeAt (β 8) 0 (nl (β 6)) := hD.rg 9 8 6 (fun z => nl (z)) rfl
  replace hf_b3 := Nat.le_trans hW.2.2 hf_b3
  have hz2_4 : (β 4) < M ∧ v * ((β 4) * (β 4)) % p = u % p ∧ (u % p = 0 → (β 4) % p = 0) := hD.an 4 _ _ _ rfl
  have hz2_5 : β 4 = β 5 := (hD.an 5 _ _ _ rfl : β 5 = β 4).symm
  have hz2_6 : β 5 = β 6 := (hD.an 6 _ _ _ rfl : β 6 = β 5).symm
  replace hW := grown_trans hW hD.gr
  clear hD
  simp only [finAct, putAll, valsFrom, Plan.value, Act.put, List.setIfInBounds_toArray, List.set_cons_zero, List.set_cons_succ]
  replace hGl := hGl0.grown hW
  generalize β (0 + 1 + 1 + 1 + 1 + 1 + 1 + 1 + 1) = b3 at *
  generalize β (0 + 1 + 1 + 1 + 1) = z2_4 at *
  generalize β (0 + 1 + 1 + 1 + 1 + 1) = z2_5 at *
  generalize β (0 + 1 + 1 + 1 + 1 + 1 + 1) = z2_6 at *
  subst hz2_5
  subst hz2_6
  have hq2_4 := Hid.of hz2_4.2
  replace hz2_4 := hz2_4.1
  repeat ((fail_if_success (with_reducible show Code.wp _ (Code.region _ _ _) _ _ _)); go_step)
  refine wp_plain [.imm (.bool true), .imm (.bool false)] (by kernel_rfl) (fun β => ?_) (fun β w3 hD => ?_)
  · refine Obs.cons (Ob.imm rfl (fun w => by kernel_rfl)) ?_
    refine Obs.cons (Ob.imm rfl (fun w => by kernel_rfl)) ?_
    exact Obs.nil
  replace hr_b0 := rangeAt_grown hr_b0 hD.gr
  replace hr_b1 := rangeAt_grown hr_b1 hD.gr
  replace hr_b3 := rangeAt_grown hr_b3 hD.gr
  replace ht_b2 := there_grown ht_b2 hD.gr
  replace ht_b3 := there_grown ht_b3 hD.gr
  replace hW := grown_trans hW hD.gr
  clear hD
  simp only [finAct, putAll, valsFrom, Plan.value, Act.put, List.setIfInBounds_toArray, List.set_cons_zero, List.set_cons_succ]
  replace hGl := hGl0.grown hW
  repeat ((fail_if_success (with_reducible show Code.wp _ (Code.region _ _ _) _ _ _)); go_step)
  by_cases hO0 : z2_4 % p % 2 = 1
  · have hO := Hid.of hO0
    clear hO0
    refine wp_plain [.val (numV (z2_4)), .val (.bool true)] (by kernel_rfl) (fun β => ?_) (fun β w4 hD => ?_)
    · refine Obs.cons (Ob.load (b3) 0 (nl (z2_4)) rfl rfl (by kernel_rfl) hr_b3 Tryd.underlying66 rfl (by rw [nl_length]; exact infoN)) ?_
      refine Obs.cons (Ob.call 56 #[numV (z2_4)] rfl (fun w => by kernel_rfl) (fun w hg => oddn_is (z2_4) hz2_4 true (decide_eq_true hO.out) w)) ?_
      exact Obs.nil
    replace hr_b0 := rangeAt_grown hr_b0 hD.gr
    replace hr_b1 := rangeAt_grown hr_b1 hD.gr
    replace hr_b3 := rangeAt_grown hr_b3 hD.gr
    replace ht_b2 := there_grown ht_b2 hD.gr
    replace ht_b3 := there_grown ht_b3 hD.gr
    replace hW := grown_trans hW hD.gr
    clear hD
    simp only [finAct, putAll, valsFrom, Plan.value, Act.put, List.setIfInBounds_toArray, List.set_cons_zero, List.set_cons_succ]
    replace hGl := hGl0.grown hW
    repeat ((fail_if_success (with_reducible show Code.wp _ (Code.region _ _ _) _ _ _)); go_step)
    refine wp_plain_fin [.val (numV (z2_4)), .any (fun z => numV (z)) [] (fun l z => z < M ∧ z % p = ng (z2_4)), .fin] (b3) 0 (fun β => nl (β 1)) (by kernel_rfl) (fun β => ?_) (fun β w5 hD => ?_)
    · refine Obs.cons (Ob.load (b3) 0 (nl (z2_4)) rfl rfl (by kernel_rfl) hr_b3 Tryd.underlying66 rfl (by rw [nl_length]; exact infoN)) ?_
      refine Obs.cons (Ob.any 57 #[numV (z2_4)] rfl (fun w => by kernel_rfl) (fun hk w hg => negated_num (z2_4) hz2_4 w)) ?_
      refine Obs.cons (Ob.fin rfl (by rw [nl_length]; exact ht_b3) rfl (by kernel_rfl) (by kernel_rfl) (by rw [nl_length]; exact infoN) (nl_one _)) ?_
      exact Obs.nil
    replace hr_b0 := rangeAt_grown hr_b0 hD.gr
    replace hr_b1 := rangeAt_grown hr_b1 hD.gr
    replace hr_b3 := rangeAt_grown hr_b3 hD.gr
    replace ht_b2 := there_grown ht_b2 hD.gr
    replace ht_b3 := there_grown ht_b3 hD.gr
    have hz5_1 : (β 1) < M ∧ (β 1) % p = ng (z2_4) := hD.an 1 _ _ _ rfl
    replace hW := grown_trans hW hD.gr
    clear hD
    simp only [finAct, putAll, valsFrom, Plan.value, Act.put, List.setIfInBounds_toArray, List.set_cons_zero, List.set_cons_succ]
    replace hGl := hGl0.grown hW
    generalize β (0 + 1) = z5_1 at *
    have hq5_1 := Hid.of hz5_1.2
    replace hz5_1 := hz5_1.1
    have hs5 := World.rangeAt_setCells_same w5 (b3) 0 (nl (z5_1)) (by rw [nl_length]; exact ht_b3)
    replace hW := grown_setCells hf_b3 (nl (z5_1)) 0 hW
    replace ht_b2 := World.there_setCells ht_b2 (b3) 0 (nl (z5_1))
    replace ht_b3 := World.there_setCells ht_b3 (b3) 0 (nl (z5_1))
    replace hGl := hGl0.grown hW
    generalize w5.setCells (b3) 0 (nl (z5_1)) = w5s at *
    repeat ((fail_if_success (with_reducible show Code.wp _ (Code.region _ _ _) _ _ _)); go_step)
    refine wp_plain_fin [.val (numV (z5_1)), .val (bv ((z5_1) % p)), .fin, .imm (.bool true)] (b2) 0 (fun _ => bl ((z5_1) % p)) (by kernel_rfl) (fun β => ?_) (fun β w6 hD => ?_)
    · refine Obs.cons (Ob.load (b3) 0 (nl (z5_1)) rfl rfl (by kernel_rfl) hs5 Tryd.underlying66 rfl (by rw [nl_length]; exact infoN)) ?_
      refine Obs.cons (Ob.call 54 #[numV (z5_1)] rfl (fun w => by kernel_rfl) (fun w hg => bytes_num (z5_1) hz5_1 w)) ?_
      refine Obs.cons (Ob.fin rfl (by rw [bl_length]; exact ht_b2) rfl (by kernel_rfl) (by kernel_rfl) (by rw [bl_length]; exact info32) (bl_one _)) ?_
      refine Obs.cons (Ob.imm rfl (fun w => by kernel_rfl)) ?_
      exact Obs.nil
    replace hs5 := rangeAt_grown hs5 hD.gr
    replace ht_b2 := there_grown ht_b2 hD.gr
    replace ht_b3 := there_grown ht_b3 hD.gr
    replace hW := grown_trans hW hD.gr
    clear hD
    simp only [finAct, putAll, valsFrom, Plan.value, Act.put, List.setIfInBounds_toArray, List.set_cons_zero, List.set_cons_succ]
    replace hGl := hGl0.grown hW
    have hs6 := World.rangeAt_setCells_same w6 (b2) 0 (bl ((z5_1) % p)) (by rw [bl_length]; exact ht_b2)
    replace hW := grown_setCells hf_b2 (bl ((z5_1) % p)) 0 hW
    generalize w6.setCells (b2) 0 (bl ((z5_1) % p)) = w6s at *
    repeat go_step
    refine bodyPost_ret (v := .tuple #[bv ((z5_1) % p), .bool true]) (result_cell_tmp Tryd.results18 _ _ (b2) _ (.bool true) ?hp ?hv hs6 Tryd.underlying23 rfl (by rw [bl_length]; exact info32)) ?hd ?_
    case hp => rfl
    case hv => rfl
    case hd => rfl
    have hrt := root_odd hq2_4.out.1 hq2_4.out.2 hO.out
    refine ⟨?_, hW⟩
    rw [rt_eq hrt, ← hq5_1.out]
  · have hO := Hid.of hO0
    clear hO0
    refine wp_plain [.val (numV (z2_4)), .val (.bool false)] (by kernel_rfl) (fun β => ?_) (fun β w4 hD => ?_)
    · refine Obs.cons (Ob.load (b3) 0 (nl (z2_4)) rfl rfl (by kernel_rfl) hr_b3 Tryd.underlying66 rfl (by rw [nl_length]; exact infoN)) ?_
      refine Obs.cons (Ob.call 56 #[numV (z2_4)] rfl (fun w => by kernel_rfl) (fun w hg => oddn_is (z2_4) hz2_4 false (decide_eq_false hO.out) w)) ?_
      exact Obs.nil
    replace hr_b0 := rangeAt_grown hr_b0 hD.gr
    replace hr_b1 := rangeAt_grown hr_b1 hD.gr
    replace hr_b3 := rangeAt_grown hr_b3 hD.gr
    replace ht_b2 := there_grown ht_b2 hD.gr
    replace ht_b3 := there_grown ht_b3 hD.gr
    replace hW := grown_trans hW hD.gr
    clear hD
    simp only [finAct, putAll, valsFrom, Plan.value, Act.put, List.setIfInBounds_toArray, List.set_cons_zero, List.set_cons_succ]
    replace hGl := hGl0.grown hW
    repeat ((fail_if_success (with_reducible show Code.wp _ (Code.region _ _ _) _ _ _)); go_step)
    refine wp_plain_fin [.val (numV (z2_4)), .val (bv ((z2_4) % p)), .fin, .imm (.bool true)] (b2) 0 (fun _ => bl ((z2_4) % p)) (by kernel_rfl) (fun β => ?_) (fun β w5 hD => ?_)
    · refine Obs.cons (Ob.load (b3) 0 (nl (z2_4)) rfl rfl (by kernel_rfl) hr_b3 Tryd.underlying66 rfl (by rw [nl_length]; exact infoN)) ?_
      refine Obs.cons (Ob.call 54 #[numV (z2_4)] rfl (fun w => by kernel_rfl) (fun w hg => bytes_num (z2_4) hz2_4 w)) ?_
      refine Obs.cons (Ob.fin rfl (by rw [bl_length]; exact ht_b2) rfl (by kernel_rfl) (by kernel_rfl) (by rw [bl_length]; exact info32) (bl_one _)) ?_
      refine Obs.cons (Ob.imm rfl (fun w => by kernel_rfl)) ?_
      exact Obs.nil
    replace hr_b0 := rangeAt_grown hr_b0 hD.gr
    replace hr_b1 := rangeAt_grown hr_b1 hD.gr
    replace hr_b3 := rangeAt_grown hr_b3 hD.gr
    replace ht_b2 := there_grown ht_b2 hD.gr
    replace ht_b3 := there_grown ht_b3 hD.gr
    replace hW := grown_trans hW hD.gr
    clear hD
    simp only [finAct, putAll, valsFrom, Plan.value, Act.put, List.setIfInBounds_toArray, List.set_cons_zero, List.set_cons_succ]
    replace hGl := hGl0.grown hW
    have hs5 := World.rangeAt_setCells_same w5 (b2) 0 (bl ((z2_4) % p)) (by rw [bl_length]; exact ht_b2)
    replace hW := grown_setCells hf_b2 (bl ((z2_4) % p)) 0 hW
    generalize w5.setCells (b2) 0 (bl ((z2_4) % p)) = w5s at *
    repeat go_step
    refine bodyPost_ret (v := .tuple #[bv ((z2_4) % p), .bool true]) (result_cell_tmp Tryd.results18 _ _ (b2) _ (.bool true) ?hp ?hv hs5 Tryd.underlying23 rfl (by rw [bl_length]; exact info32)) ?hd ?_
    case hp => rfl
    case hv => rfl
    case hd => rfl
    have hrt := root_even hq2_4.out.1 hq2_4.out.2 hO.out
    refine ⟨?_, hW⟩
    rw [rt_eq hrt]

end Go.Proofs.YtkegcilcapnpdaaDoor
