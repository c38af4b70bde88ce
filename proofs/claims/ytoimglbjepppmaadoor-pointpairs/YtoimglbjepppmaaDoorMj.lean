import Derived.Test.YtoimglbjepppmaaDoorMi
import Derived.Test.YtoimglbjepppmaaDoorMa
import Derived.Test.YtoimglbjepppmaaDoorMh
namespace Go.Proofs.YtoimglbjepppmaaDoor
open Go.RowKit Go.Shelf FieldNum

theorem equals_is (x y : Nat) (hx : x < M) (hy : y < M) (b : Bool) (h : decide (x % p = y % p) = b) (w : World) : Calls Tryd.prog 89 #[numV x, numV y] w fun e w' => e = .returned (.bool b) ∧ Grown w w' := by
  have := equals_num x y hx hy w
  rwa [h] at this
theorem oddn_is (x : Nat) (hx : x < M) (b : Bool) (h : decide (x % p % 2 = 1) = b) (w : World) : Calls Tryd.prog 53 #[numV x] w fun e w' => e = .returned (.bool b) ∧ Grown w w' := by
  have := odd_num x hx w
  rwa [h] at this

set_option maxRecDepth 100000 in
set_option maxHeartbeats 2000000 in
theorem rootPower_num (x : Nat) (hx : x < M) (w : World) (hGl0 : G0 w) :
    Calls Tryd.prog 88 #[numV x] w fun e w' => (∃ z, e = .returned (numV z) ∧ z < M ∧ z % p = rp x) ∧ Grown w w' := by
  have hW := Grown.refl w
  have hGl := hGl0
  go_enter Tryd.func88, Tryd.ntmps88
  repeat ((fail_if_success (with_reducible show Code.wp _ (Code.region _ _ _) _ _ _)); go_step)
  refine wp_plain [.box 68 (nl (x)), .new 68 4] (by kernel_rfl) (fun β => ?_) (fun β w1 hD => ?_)
  · refine Obs.cons (Ob.box rfl rfl (by kernel_rfl)) ?_
    refine Obs.cons (Ob.new _ rfl rfl zeroN (by simp [nl_length])) ?_
    exact Obs.nil
  obtain ⟨hf_b0, hr_b0⟩ := hD.bx 0 _ _ rfl
  replace hf_b0 := Nat.le_trans hW.2.2 hf_b0
  obtain ⟨hf_b1, ht_b1⟩ := hD.nw 1 _ _ rfl
  replace hf_b1 := Nat.le_trans hW.2.2 hf_b1
  replace hW := grown_trans hW hD.gr
  clear hD
  simp only [finAct, putAll, valsFrom, Plan.value, Act.put, List.setIfInBounds_toArray, List.set_cons_zero, List.set_cons_succ]
  replace hGl := hGl0.grown hW
  generalize β 0 = b0 at *
  generalize β (0 + 1) = b1 at *
  repeat ((fail_if_success (with_reducible show Code.wp _ (Code.region _ _ _) _ _ _)); go_step)
  replace hr_b0 := rangeAt_grown hr_b0 (gdrew w1)
  replace ht_b1 := there_grown ht_b1 (gdrew w1)
  replace hW := grown_trans hW (gdrew w1)
  replace hGl := hGl0.grown hW
  refine wp_loose_fin [.val (numV (x)), .any (fun z => numV (z)) [] (fun l z => z < M ∧ z % p = (x) ^ (EX.getD 10 0) % p), .any (fun z => numV (z)) [1] (fun l z => z < M ∧ z % p = (l.getD 0 0) ^ (2 ^ 2) % p), .val (numV (x)), .any (fun z => numV (z)) [2] (fun l z => z < M ∧ z % p = (l.getD 0 0) * (x) % p), .fin] (b1) 0 (fun β => nl (β 4)) (by kernel_rfl) (by kernel_rfl) (fun β => ?_) (fun β w2 hD => ?_)
  · refine Obs.cons (Ob.load (b0) 0 (nl (x)) rfl rfl (by kernel_rfl) hr_b0 Tryd.underlying68 rfl (by rw [nl_length]; exact infoN)) ?_
    refine Obs.cons (Ob.any 86 #[numV (x)] rfl (fun w => by kernel_rfl) (fun hk w hg => longPower_num (x) hx w (hGl.grown hg).g0.pw)) ?_
    refine Obs.cons (Ob.any 55 #[numV (β 1), .int .i64 (2)] rfl (fun w => by kernel_rfl) (fun hk w hg => squared_num (β 1) 2 (hk 1 _ _ _ rfl (bindsTo_spec (by kernel_rfl))).1 (by decide) w)) ?_
    refine Obs.cons (Ob.load (b0) 0 (nl (x)) rfl rfl (by kernel_rfl) hr_b0 Tryd.underlying68 rfl (by rw [nl_length]; exact infoN)) ?_
    refine Obs.cons (Ob.any 49 #[numV (β 2), numV (x)] rfl (fun w => by kernel_rfl) (fun hk w hg => times_num (β 2) (x) (hk 2 _ _ _ rfl (bindsTo_spec (by kernel_rfl))).1 hx w)) ?_
    refine Obs.cons (Ob.fin rfl (by rw [nl_length]; exact ht_b1) rfl (by kernel_rfl) (by kernel_rfl) (by rw [nl_length]; exact infoN) (nl_one _)) ?_
    exact Obs.nil
  replace hr_b0 := rangeAt_grown hr_b0 hD.gr
  replace ht_b1 := there_grown ht_b1 hD.gr
  have hz2_1 : (β 1) < M ∧ (β 1) % p = (x) ^ (EX.getD 10 0) % p := hD.an 1 _ _ _ rfl
  have hz2_2 : (β 2) < M ∧ (β 2) % p = (β 1) ^ (2 ^ 2) % p := hD.an 2 _ _ _ rfl
  have hz2_4 : (β 4) < M ∧ (β 4) % p = (β 2) * (x) % p := hD.an 4 _ _ _ rfl
  replace hW := grown_trans hW hD.gr
  clear hD
  simp only [finAct, putAll, valsFrom, Plan.value, Act.put, List.setIfInBounds_toArray, List.set_cons_zero, List.set_cons_succ]
  replace hGl := hGl0.grown hW
  generalize β (0 + 1) = z2_1 at *
  generalize β (0 + 1 + 1) = z2_2 at *
  generalize β (0 + 1 + 1 + 1 + 1) = z2_4 at *
  have hq2_1 := Hid.of hz2_1.2
  replace hz2_1 := hz2_1.1
  have hq2_2 := Hid.of hz2_2.2
  replace hz2_2 := hz2_2.1
  have hq2_4 := Hid.of hz2_4.2
  replace hz2_4 := hz2_4.1
  have hs2 := World.rangeAt_setCells_same w2 (b1) 0 (nl (z2_4)) (by rw [nl_length]; exact ht_b1)
  replace hW := grown_setCells hf_b1 (nl (z2_4)) 0 hW
  generalize w2.setCells (b1) 0 (nl (z2_4)) = w2s at *
  repeat go_step
  refine bodyPost_ret (v := numV (z2_4)) (result_cells Tryd.results88 _ _ (b1) (nl (z2_4)) ?hp hs2 Tryd.underlying68 rfl (by rw [nl_length]; exact infoN)) ?hd ?_
  case hp => rfl
  case hd => rfl
  refine ⟨⟨z2_4, rfl, hz2_4, ?_⟩, hW⟩
  have f1 := hq2_1.out
  have f2 := hq2_2.out
  have f3 := hq2_4.out
  have g := pmul (f2.trans (ppow f1)) (pone x)
  rw [f3, g]
  show _ = x ^ ((p - 5) / 8) % p
  exact congrArg (fun n => x ^ n % p) (by decide +kernel)

set_option maxRecDepth 100000 in
set_option maxHeartbeats 2000000 in
theorem rootOfRatio_num (u v : Nat) (hu : u < M) (hv : v < M) (w : World) (hGl0 : G1 w) :
    Calls Tryd.prog 52 #[numV u, numV v] w fun e w' => ((rok u v ∧ ∃ z, e = .returned (.tuple #[numV z, .bool true]) ∧ z < M ∧ v * (z * z) % p = u % p ∧ (u % p = 0 → z % p = 0)) ∨ (¬ rok u v ∧ e = .returned (.tuple #[numV 0, .bool false]))) ∧ Grown w w' := by
  have hW := Grown.refl w
  have hGl := hGl0
  go_enter Tryd.func52, Tryd.ntmps52
  repeat ((fail_if_success (with_reducible show Code.wp _ (Code.region _ _ _) _ _ _)); go_step)
  refine wp_plain [.box 68 (nl (u)), .box 68 (nl (v)), .new 68 4, .imm (.bool false)] (by kernel_rfl) (fun β => ?_) (fun β w1 hD => ?_)
  · refine Obs.cons (Ob.box rfl rfl (by kernel_rfl)) ?_
    refine Obs.cons (Ob.box rfl rfl (by kernel_rfl)) ?_
    refine Obs.cons (Ob.new _ rfl rfl zeroN (by simp [nl_length])) ?_
    refine Obs.cons (Ob.imm rfl (fun w => by kernel_rfl)) ?_
    exact Obs.nil
  obtain ⟨hf_b0, hr_b0⟩ := hD.bx 0 _ _ rfl
  replace hf_b0 := Nat.le_trans hW.2.2 hf_b0
  obtain ⟨hf_b1, hr_b1⟩ := hD.bx 1 _ _ rfl
  replace hf_b1 := Nat.le_trans hW.2.2 hf_b1
  obtain ⟨hf_b2, ht_b2⟩ := hD.nw 2 _ _ rfl
  replace hf_b2 := Nat.le_trans hW.2.2 hf_b2
  replace hW := grown_trans hW hD.gr
  clear hD
  simp only [finAct, putAll, valsFrom, Plan.value, Act.put, List.setIfInBounds_toArray, List.set_cons_zero, List.set_cons_succ]
  replace hGl := hGl0.grown hW
  generalize β 0 = b0 at *
  generalize β (0 + 1) = b1 at *
  generalize β (0 + 1 + 1) = b2 at *
  repeat ((fail_if_success (with_reducible show Code.wp _ (Code.region _ _ _) _ _ _)); go_step)
  replace hr_b0 := rangeAt_grown hr_b0 (gdrew w1)
  replace hr_b1 := rangeAt_grown hr_b1 (gdrew w1)
  replace ht_b2 := there_grown ht_b2 (gdrew w1)
  replace hW := grown_trans hW (gdrew w1)
  replace hGl := hGl0.grown hW
  refine wp_loose [.val (numV (v)), .any (fun z => numV (z)) [] (fun l z => z < M ∧ z % p = (v) ^ (2 ^ 1) % p), .val (numV (v)), .any (fun z => numV (z)) [1] (fun l z => z < M ∧ z % p = (l.getD 0 0) * (v) % p), .new 68 4, .put 4 3 (fun z => nl (z))] (by kernel_rfl) (by kernel_rfl) (fun β => ?_) (fun β w2 hD => ?_)
  · refine Obs.cons (Ob.load (b1) 0 (nl (v)) rfl rfl (by kernel_rfl) hr_b1 Tryd.underlying68 rfl (by rw [nl_length]; exact infoN)) ?_
    refine Obs.cons (Ob.any 55 #[numV (v), .int .i64 (1)] rfl (fun w => by kernel_rfl) (fun hk w hg => squared_num (v) 1 hv (by decide) w)) ?_
    refine Obs.cons (Ob.load (b1) 0 (nl (v)) rfl rfl (by kernel_rfl) hr_b1 Tryd.underlying68 rfl (by rw [nl_length]; exact infoN)) ?_
    refine Obs.cons (Ob.any 49 #[numV (β 1), numV (v)] rfl (fun w => by kernel_rfl) (fun hk w hg => times_num (β 1) (v) (hk 1 _ _ _ rfl (bindsTo_spec (by kernel_rfl))).1 hv w)) ?_
    refine Obs.cons (Ob.new _ rfl rfl zeroN (by simp [nl_length])) ?_
    refine Obs.cons (Ob.put 68 rfl rfl rfl (by kernel_rfl) (by kernel_rfl) (by rw [nl_length]; exact infoN) (nl_one _)) ?_
    exact Obs.nil
  replace hr_b0 := rangeAt_grown hr_b0 hD.gr
  replace hr_b1 := rangeAt_grown hr_b1 hD.gr
  replace ht_b2 := there_grown ht_b2 hD.gr
  obtain ⟨hf_b3, ht_b3⟩ := hD.nw 4 _ _ rfl
  have hr_b3 : w2.rangeAt (β 4) 0 (nl (β 3)) := hD.rg 5 4 3 (fun z => nl (z)) rfl
  replace hf_b3 := Nat.le_trans hW.2.2 hf_b3
  have hz2_1 : (β 1) < M ∧ (β 1) % p = (v) ^ (2 ^ 1) % p := hD.an 1 _ _ _ rfl
  have hz2_3 : (β 3) < M ∧ (β 3) % p = (β 1) * (v) % p := hD.an 3 _ _ _ rfl
  replace hW := grown_trans hW hD.gr
  clear hD
  simp only [finAct, putAll, valsFrom, Plan.value, Act.put, List.setIfInBounds_toArray, List.set_cons_zero, List.set_cons_succ]
  replace hGl := hGl0.grown hW
  generalize β (0 + 1 + 1 + 1 + 1) = b3 at *
  generalize β (0 + 1) = z2_1 at *
  generalize β (0 + 1 + 1 + 1) = z2_3 at *
  have hq2_1 := Hid.of hz2_1.2
  replace hz2_1 := hz2_1.1
  have hq2_3 := Hid.of hz2_3.2
  replace hz2_3 := hz2_3.1
  repeat ((fail_if_success (with_reducible show Code.wp _ (Code.region _ _ _) _ _ _)); go_step)
  replace hr_b0 := rangeAt_grown hr_b0 (gdrew w2)
  replace hr_b1 := rangeAt_grown hr_b1 (gdrew w2)
  replace hr_b3 := rangeAt_grown hr_b3 (gdrew w2)
  replace ht_b2 := there_grown ht_b2 (gdrew w2)
  replace ht_b3 := there_grown ht_b3 (gdrew w2)
  replace hW := grown_trans hW (gdrew w2)
  replace hGl := hGl0.grown hW
  refine wp_loose [.val (numV (z2_3)), .any (fun z => numV (z)) [] (fun l z => z < M ∧ z % p = (z2_3) ^ (2 ^ 1) % p), .val (numV (v)), .any (fun z => numV (z)) [1] (fun l z => z < M ∧ z % p = (l.getD 0 0) * (v) % p), .new 68 4, .put 4 3 (fun z => nl (z))] (by kernel_rfl) (by kernel_rfl) (fun β => ?_) (fun β w3 hD => ?_)
  · refine Obs.cons (Ob.load (b3) 0 (nl (z2_3)) rfl rfl (by kernel_rfl) hr_b3 Tryd.underlying68 rfl (by rw [nl_length]; exact infoN)) ?_
    refine Obs.cons (Ob.any 55 #[numV (z2_3), .int .i64 (1)] rfl (fun w => by kernel_rfl) (fun hk w hg => squared_num (z2_3) 1 hz2_3 (by decide) w)) ?_
    refine Obs.cons (Ob.load (b1) 0 (nl (v)) rfl rfl (by kernel_rfl) hr_b1 Tryd.underlying68 rfl (by rw [nl_length]; exact infoN)) ?_
    refine Obs.cons (Ob.any 49 #[numV (β 1), numV (v)] rfl (fun w => by kernel_rfl) (fun hk w hg => times_num (β 1) (v) (hk 1 _ _ _ rfl (bindsTo_spec (by kernel_rfl))).1 hv w)) ?_
    refine Obs.cons (Ob.new _ rfl rfl zeroN (by simp [nl_length])) ?_
    refine Obs.cons (Ob.put 68 rfl rfl rfl (by kernel_rfl) (by kernel_rfl) (by rw [nl_length]; exact infoN) (nl_one _)) ?_
    exact Obs.nil
  replace hr_b0 := rangeAt_grown hr_b0 hD.gr
  replace hr_b1 := rangeAt_grown hr_b1 hD.gr
  replace hr_b3 := rangeAt_grown hr_b3 hD.gr
  replace ht_b2 := there_grown ht_b2 hD.gr
  replace ht_b3 := there_grown ht_b3 hD.gr
  obtain ⟨hf_b4, ht_b4⟩ := hD.nw 4 _ _ rfl
  have hr_b4 : w3.rangeAt (β 4) 0 (nl (β 3)) := hD.rg 5 4 3 (fun z => nl (z)) rfl
  replace hf_b4 := Nat.le_trans hW.2.2 hf_b4
  have hz3_1 : (β 1) < M ∧ (β 1) % p = (z2_3) ^ (2 ^ 1) % p := hD.an 1 _ _ _ rfl
  have hz3_3 : (β 3) < M ∧ (β 3) % p = (β 1) * (v) % p := hD.an 3 _ _ _ rfl
  replace hW := grown_trans hW hD.gr
  clear hD
  simp only [finAct, putAll, valsFrom, Plan.value, Act.put, List.setIfInBounds_toArray, List.set_cons_zero, List.set_cons_succ]
  replace hGl := hGl0.grown hW
  generalize β (0 + 1 + 1 + 1 + 1) = b4 at *
  generalize β (0 + 1) = z3_1 at *
  generalize β (0 + 1 + 1 + 1) = z3_3 at *
  have hq3_1 := Hid.of hz3_1.2
  replace hz3_1 := hz3_1.1
  have hq3_3 := Hid.of hz3_3.2
  replace hz3_3 := hz3_3.1
  repeat ((fail_if_success (with_reducible show Code.wp _ (Code.region _ _ _) _ _ _)); go_step)
  replace hr_b0 := rangeAt_grown hr_b0 (gdrew w3)
  replace hr_b1 := rangeAt_grown hr_b1 (gdrew w3)
  replace hr_b3 := rangeAt_grown hr_b3 (gdrew w3)
  replace hr_b4 := rangeAt_grown hr_b4 (gdrew w3)
  replace ht_b2 := there_grown ht_b2 (gdrew w3)
  replace ht_b3 := there_grown ht_b3 (gdrew w3)
  replace ht_b4 := there_grown ht_b4 (gdrew w3)
  replace hW := grown_trans hW (gdrew w3)
  replace hGl := hGl0.grown hW
  refine wp_loose [.val (numV (u)), .val (numV (z2_3)), .any (fun z => numV (z)) [] (fun l z => z < M ∧ z % p = (u) * (z2_3) % p), .val (numV (u)), .val (numV (z3_3)), .any (fun z => numV (z)) [] (fun l z => z < M ∧ z % p = (u) * (z3_3) % p), .any (fun z => numV (z)) [5] (fun l z => z < M ∧ z % p = rp (l.getD 0 0)), .any (fun z => numV (z)) [2, 6] (fun l z => z < M ∧ z % p = (l.getD 0 0) * (l.getD 1 0) % p), .new 68 4, .put 8 7 (fun z => nl (z))] (by kernel_rfl) (by kernel_rfl) (fun β => ?_) (fun β w4 hD => ?_)
  · refine Obs.cons (Ob.load (b0) 0 (nl (u)) rfl rfl (by kernel_rfl) hr_b0 Tryd.underlying68 rfl (by rw [nl_length]; exact infoN)) ?_
    refine Obs.cons (Ob.load (b3) 0 (nl (z2_3)) rfl rfl (by kernel_rfl) hr_b3 Tryd.underlying68 rfl (by rw [nl_length]; exact infoN)) ?_
    refine Obs.cons (Ob.any 49 #[numV (u), numV (z2_3)] rfl (fun w => by kernel_rfl) (fun hk w hg => times_num (u) (z2_3) hu hz2_3 w)) ?_
    refine Obs.cons (Ob.load (b0) 0 (nl (u)) rfl rfl (by kernel_rfl) hr_b0 Tryd.underlying68 rfl (by rw [nl_length]; exact infoN)) ?_
    refine Obs.cons (Ob.load (b4) 0 (nl (z3_3)) rfl rfl (by kernel_rfl) hr_b4 Tryd.underlying68 rfl (by rw [nl_length]; exact infoN)) ?_
    refine Obs.cons (Ob.any 49 #[numV (u), numV (z3_3)] rfl (fun w => by kernel_rfl) (fun hk w hg => times_num (u) (z3_3) hu hz3_3 w)) ?_
    refine Obs.cons (Ob.any 88 #[numV (β 5)] rfl (fun w => by kernel_rfl) (fun hk w hg => rootPower_num (β 5) (hk 5 _ _ _ rfl (bindsTo_spec (by kernel_rfl))).1 w (hGl.grown hg).g0)) ?_
    refine Obs.cons (Ob.any 49 #[numV (β 2), numV (β 6)] rfl (fun w => by kernel_rfl) (fun hk w hg => times_num (β 2) (β 6) (hk 2 _ _ _ rfl (bindsTo_spec (by kernel_rfl))).1 (hk 6 _ _ _ rfl (bindsTo_spec (by kernel_rfl))).1 w)) ?_
    refine Obs.cons (Ob.new _ rfl rfl zeroN (by simp [nl_length])) ?_
    refine Obs.cons (Ob.put 68 rfl rfl rfl (by kernel_rfl) (by kernel_rfl) (by rw [nl_length]; exact infoN) (nl_one _)) ?_
    exact Obs.nil
  replace hr_b0 := rangeAt_grown hr_b0 hD.gr
  replace hr_b1 := rangeAt_grown hr_b1 hD.gr
  replace hr_b3 := rangeAt_grown hr_b3 hD.gr
  replace hr_b4 := rangeAt_grown hr_b4 hD.gr
  replace ht_b2 := there_grown ht_b2 hD.gr
  replace ht_b3 := there_grown ht_b3 hD.gr
  replace ht_b4 := there_grown ht_b4 hD.gr
  obtain ⟨hf_b5, ht_b5⟩ := hD.nw 8 _ _ rfl
  have hr_b5 : w4.rangeAt (β 8) 0 (nl (β 7)) := hD.rg 9 8 7 (fun z => nl (z)) rfl
  replace hf_b5 := Nat.le_trans hW.2.2 hf_b5
  have hz4_2 : (β 2) < M ∧ (β 2) % p = (u) * (z2_3) % p := hD.an 2 _ _ _ rfl
  have hz4_5 : (β 5) < M ∧ (β 5) % p = (u) * (z3_3) % p := hD.an 5 _ _ _ rfl
  have hz4_6 : (β 6) < M ∧ (β 6) % p = rp (β 5) := hD.an 6 _ _ _ rfl
  have hz4_7 : (β 7) < M ∧ (β 7) % p = (β 2) * (β 6) % p := hD.an 7 _ _ _ rfl
  replace hW := grown_trans hW hD.gr
  clear hD
  simp only [finAct, putAll, valsFrom, Plan.value, Act.put, List.setIfInBounds_toArray, List.set_cons_zero, List.set_cons_succ]
  replace hGl := hGl0.grown hW
  generalize β (0 + 1 + 1 + 1 + 1 + 1 + 1 + 1 + 1) = b5 at *
  generalize β (0 + 1 + 1) = z4_2 at *
  generalize β (0 + 1 + 1 + 1 + 1 + 1) = z4_5 at *
  generalize β (0 + 1 + 1 + 1 + 1 + 1 + 1) = z4_6 at *
  generalize β (0 + 1 + 1 + 1 + 1 + 1 + 1 + 1) = z4_7 at *
  have hq4_2 := Hid.of hz4_2.2
  replace hz4_2 := hz4_2.1
  have hq4_5 := Hid.of hz4_5.2
  replace hz4_5 := hz4_5.1
  have hq4_6 := Hid.of hz4_6.2
  replace hz4_6 := hz4_6.1
  have hq4_7 := Hid.of hz4_7.2
  replace hz4_7 := hz4_7.1
  repeat ((fail_if_success (with_reducible show Code.wp _ (Code.region _ _ _) _ _ _)); go_step)
  replace hr_b0 := rangeAt_grown hr_b0 (gdrew w4)
  replace hr_b1 := rangeAt_grown hr_b1 (gdrew w4)
  replace hr_b3 := rangeAt_grown hr_b3 (gdrew w4)
  replace hr_b4 := rangeAt_grown hr_b4 (gdrew w4)
  replace hr_b5 := rangeAt_grown hr_b5 (gdrew w4)
  replace ht_b2 := there_grown ht_b2 (gdrew w4)
  replace ht_b3 := there_grown ht_b3 (gdrew w4)
  replace ht_b4 := there_grown ht_b4 (gdrew w4)
  replace ht_b5 := there_grown ht_b5 (gdrew w4)
  replace hW := grown_trans hW (gdrew w4)
  replace hGl := hGl0.grown hW
  refine wp_loose [.val (numV (v)), .val (numV (z4_7)), .any (fun z => numV (z)) [] (fun l z => z < M ∧ z % p = (z4_7) ^ (2 ^ 1) % p), .any (fun z => numV (z)) [2] (fun l z => z < M ∧ z % p = (v) * (l.getD 0 0) % p), .new 68 4, .put 4 3 (fun z => nl (z))] (by kernel_rfl) (by kernel_rfl) (fun β => ?_) (fun β w5 hD => ?_)
  · refine Obs.cons (Ob.load (b1) 0 (nl (v)) rfl rfl (by kernel_rfl) hr_b1 Tryd.underlying68 rfl (by rw [nl_length]; exact infoN)) ?_
    refine Obs.cons (Ob.load (b5) 0 (nl (z4_7)) rfl rfl (by kernel_rfl) hr_b5 Tryd.underlying68 rfl (by rw [nl_length]; exact infoN)) ?_
    refine Obs.cons (Ob.any 55 #[numV (z4_7), .int .i64 (1)] rfl (fun w => by kernel_rfl) (fun hk w hg => squared_num (z4_7) 1 hz4_7 (by decide) w)) ?_
    refine Obs.cons (Ob.any 49 #[numV (v), numV (β 2)] rfl (fun w => by kernel_rfl) (fun hk w hg => times_num (v) (β 2) hv (hk 2 _ _ _ rfl (bindsTo_spec (by kernel_rfl))).1 w)) ?_
    refine Obs.cons (Ob.new _ rfl rfl zeroN (by simp [nl_length])) ?_
    refine Obs.cons (Ob.put 68 rfl rfl rfl (by kernel_rfl) (by kernel_rfl) (by rw [nl_length]; exact infoN) (nl_one _)) ?_
    exact Obs.nil
  replace hr_b0 := rangeAt_grown hr_b0 hD.gr
  replace hr_b1 := rangeAt_grown hr_b1 hD.gr
  replace hr_b3 := rangeAt_grown hr_b3 hD.gr
  replace hr_b4 := rangeAt_grown hr_b4 hD.gr
  replace hr_b5 := rangeAt_grown hr_b5 hD.gr
  replace ht_b2 := there_grown ht_b2 hD.gr
  replace ht_b3 := there_grown ht_b3 hD.gr
  replace ht_b4 := there_grown ht_b4 hD.gr
  replace ht_b5 := there_grown ht_b5 hD.gr
  obtain ⟨hf_b6, ht_b6⟩ := hD.nw 4 _ _ rfl
  have hr_b6 : w5.rangeAt (β 4) 0 (nl (β 3)) := hD.rg 5 4 3 (fun z => nl (z)) rfl
  replace hf_b6 := Nat.le_trans hW.2.2 hf_b6
  have hz5_2 : (β 2) < M ∧ (β 2) % p = (z4_7) ^ (2 ^ 1) % p := hD.an 2 _ _ _ rfl
  have hz5_3 : (β 3) < M ∧ (β 3) % p = (v) * (β 2) % p := hD.an 3 _ _ _ rfl
  replace hW := grown_trans hW hD.gr
  clear hD
  simp only [finAct, putAll, valsFrom, Plan.value, Act.put, List.setIfInBounds_toArray, List.set_cons_zero, List.set_cons_succ]
  replace hGl := hGl0.grown hW
  generalize β (0 + 1 + 1 + 1 + 1) = b6 at *
  generalize β (0 + 1 + 1) = z5_2 at *
  generalize β (0 + 1 + 1 + 1) = z5_3 at *
  have hq5_2 := Hid.of hz5_2.2
  replace hz5_2 := hz5_2.1
  have hq5_3 := Hid.of hz5_3.2
  replace hz5_3 := hz5_3.1
  repeat ((fail_if_success (with_reducible show Code.wp _ (Code.region _ _ _) _ _ _)); go_step)
  obtain ⟨hs1, hs2, hs3⟩ := root_chain hq2_1.out hq2_3.out hq3_1.out hq3_3.out hq4_2.out hq4_5.out hq4_6.out hq4_7.out hq5_2.out hq5_3.out
  replace hs1 := Hid.of hs1
  replace hs2 := Hid.of hs2
  replace hs3 := Hid.of hs3
  clear hq2_1 hq2_3 hq3_1 hq3_3 hq4_2 hq4_5 hq4_6 hq4_7 hq5_2 hq5_3
  by_cases hA0 : z5_3 % p = u % p
  · have hA := Hid.of hA0
    clear hA0
    refine wp_plain [.val (numV (z5_3)), .val (numV (u)), .val (.bool true), .imm (.bool true)] (by kernel_rfl) (fun β => ?_) (fun β w6 hD => ?_)
    · refine Obs.cons (Ob.load (b6) 0 (nl (z5_3)) rfl rfl (by kernel_rfl) hr_b6 Tryd.underlying68 rfl (by rw [nl_length]; exact infoN)) ?_
      refine Obs.cons (Ob.load (b0) 0 (nl (u)) rfl rfl (by kernel_rfl) hr_b0 Tryd.underlying68 rfl (by rw [nl_length]; exact infoN)) ?_
      refine Obs.cons (Ob.call 89 #[numV (z5_3), numV (u)] rfl (fun w => by kernel_rfl) (fun w hg => equals_is (z5_3) (u) hz5_3 hu true (decide_eq_true hA.out) w)) ?_
      refine Obs.cons (Ob.imm rfl (fun w => by kernel_rfl)) ?_
      exact Obs.nil
    replace hr_b0 := rangeAt_grown hr_b0 hD.gr
    replace hr_b1 := rangeAt_grown hr_b1 hD.gr
    replace hr_b3 := rangeAt_grown hr_b3 hD.gr
    replace hr_b4 := rangeAt_grown hr_b4 hD.gr
    replace hr_b5 := rangeAt_grown hr_b5 hD.gr
    replace hr_b6 := rangeAt_grown hr_b6 hD.gr
    replace ht_b2 := there_grown ht_b2 hD.gr
    replace ht_b3 := there_grown ht_b3 hD.gr
    replace ht_b4 := there_grown ht_b4 hD.gr
    replace ht_b5 := there_grown ht_b5 hD.gr
    replace ht_b6 := there_grown ht_b6 hD.gr
    replace hW := grown_trans hW hD.gr
    clear hD
    simp only [finAct, putAll, valsFrom, Plan.value, Act.put, List.setIfInBounds_toArray, List.set_cons_zero, List.set_cons_succ]
    replace hGl := hGl0.grown hW
    repeat ((fail_if_success (with_reducible show Code.wp _ (Code.region _ _ _) _ _ _)); go_step)
    refine wp_plain_fin [.val (numV (z4_7)), .fin, .imm (.bool true)] (b2) 0 (fun _ => nl (z4_7)) (by kernel_rfl) (fun β => ?_) (fun β w7 hD => ?_)
    · refine Obs.cons (Ob.load (b5) 0 (nl (z4_7)) rfl rfl (by kernel_rfl) hr_b5 Tryd.underlying68 rfl (by rw [nl_length]; exact infoN)) ?_
      refine Obs.cons (Ob.fin rfl (by rw [nl_length]; exact ht_b2) rfl (by kernel_rfl) (by kernel_rfl) (by rw [nl_length]; exact infoN) (nl_one _)) ?_
      refine Obs.cons (Ob.imm rfl (fun w => by kernel_rfl)) ?_
      exact Obs.nil
    replace hr_b0 := rangeAt_grown hr_b0 hD.gr
    replace hr_b1 := rangeAt_grown hr_b1 hD.gr
    replace hr_b3 := rangeAt_grown hr_b3 hD.gr
    replace hr_b4 := rangeAt_grown hr_b4 hD.gr
    replace hr_b5 := rangeAt_grown hr_b5 hD.gr
    replace hr_b6 := rangeAt_grown hr_b6 hD.gr
    replace ht_b2 := there_grown ht_b2 hD.gr
    replace ht_b3 := there_grown ht_b3 hD.gr
    replace ht_b4 := there_grown ht_b4 hD.gr
    replace ht_b5 := there_grown ht_b5 hD.gr
    replace ht_b6 := there_grown ht_b6 hD.gr
    replace hW := grown_trans hW hD.gr
    clear hD
    simp only [finAct, putAll, valsFrom, Plan.value, Act.put, List.setIfInBounds_toArray, List.set_cons_zero, List.set_cons_succ]
    replace hGl := hGl0.grown hW
    have hs7 := World.rangeAt_setCells_same w7 (b2) 0 (nl (z4_7)) (by rw [nl_length]; exact ht_b2)
    replace hW := grown_setCells hf_b2 (nl (z4_7)) 0 hW
    generalize w7.setCells (b2) 0 (nl (z4_7)) = w7s at *
    repeat go_step
    refine bodyPost_ret (v := .tuple #[numV (z4_7), .bool true]) (result_cell_tmp Tryd.results52 _ _ (b2) (nl (z4_7)) (.bool true) ?hp ?hv hs7 Tryd.underlying68 rfl (by rw [nl_length]; exact infoN)) ?hd ?_
    case hp => rfl
    case hv => rfl
    case hd => rfl
    exact ⟨.inl ⟨rok_of_found hs1.out (.inl hA.out), z4_7, rfl, hz4_7, hs2.out.symm.trans hA.out, hs3.out⟩, hW⟩
  · have hA := Hid.of hA0
    clear hA0
    refine wp_plain [.val (numV (z5_3)), .val (numV (u)), .val (.bool false), .imm (.bool false)] (by kernel_rfl) (fun β => ?_) (fun β w6 hD => ?_)
    · refine Obs.cons (Ob.load (b6) 0 (nl (z5_3)) rfl rfl (by kernel_rfl) hr_b6 Tryd.underlying68 rfl (by rw [nl_length]; exact infoN)) ?_
      refine Obs.cons (Ob.load (b0) 0 (nl (u)) rfl rfl (by kernel_rfl) hr_b0 Tryd.underlying68 rfl (by rw [nl_length]; exact infoN)) ?_
      refine Obs.cons (Ob.call 89 #[numV (z5_3), numV (u)] rfl (fun w => by kernel_rfl) (fun w hg => equals_is (z5_3) (u) hz5_3 hu false (decide_eq_false hA.out) w)) ?_
      refine Obs.cons (Ob.imm rfl (fun w => by kernel_rfl)) ?_
      exact Obs.nil
    replace hr_b0 := rangeAt_grown hr_b0 hD.gr
    replace hr_b1 := rangeAt_grown hr_b1 hD.gr
    replace hr_b3 := rangeAt_grown hr_b3 hD.gr
    replace hr_b4 := rangeAt_grown hr_b4 hD.gr
    replace hr_b5 := rangeAt_grown hr_b5 hD.gr
    replace hr_b6 := rangeAt_grown hr_b6 hD.gr
    replace ht_b2 := there_grown ht_b2 hD.gr
    replace ht_b3 := there_grown ht_b3 hD.gr
    replace ht_b4 := there_grown ht_b4 hD.gr
    replace ht_b5 := there_grown ht_b5 hD.gr
    replace ht_b6 := there_grown ht_b6 hD.gr
    replace hW := grown_trans hW hD.gr
    clear hD
    simp only [finAct, putAll, valsFrom, Plan.value, Act.put, List.setIfInBounds_toArray, List.set_cons_zero, List.set_cons_succ]
    replace hGl := hGl0.grown hW
    repeat ((fail_if_success (with_reducible show Code.wp _ (Code.region _ _ _) _ _ _)); go_step)
    by_cases hB0 : z5_3 % p = ng u
    · have hB := Hid.of hB0
      clear hB0
      replace hr_b0 := rangeAt_grown hr_b0 (gdrew w6)
      replace hr_b1 := rangeAt_grown hr_b1 (gdrew w6)
      replace hr_b3 := rangeAt_grown hr_b3 (gdrew w6)
      replace hr_b4 := rangeAt_grown hr_b4 (gdrew w6)
      replace hr_b5 := rangeAt_grown hr_b5 (gdrew w6)
      replace hr_b6 := rangeAt_grown hr_b6 (gdrew w6)
      replace ht_b2 := there_grown ht_b2 (gdrew w6)
      replace ht_b3 := there_grown ht_b3 (gdrew w6)
      replace ht_b4 := there_grown ht_b4 (gdrew w6)
      replace ht_b5 := there_grown ht_b5 (gdrew w6)
      replace ht_b6 := there_grown ht_b6 (gdrew w6)
      replace hW := grown_trans hW (gdrew w6)
      replace hGl := hGl0.grown hW
      refine wp_loose [.val (numV (z5_3)), .val (numV (u)), .any (fun z => numV (z)) [] (fun l z => z < M ∧ z % p = ng (u)), .val (.bool true), .imm (.bool true)] (by kernel_rfl) (by kernel_rfl) (fun β => ?_) (fun β w7 hD => ?_)
      · refine Obs.cons (Ob.load (b6) 0 (nl (z5_3)) rfl rfl (by kernel_rfl) hr_b6 Tryd.underlying68 rfl (by rw [nl_length]; exact infoN)) ?_
        refine Obs.cons (Ob.load (b0) 0 (nl (u)) rfl rfl (by kernel_rfl) hr_b0 Tryd.underlying68 rfl (by rw [nl_length]; exact infoN)) ?_
        refine Obs.cons (Ob.any 54 #[numV (u)] rfl (fun w => by kernel_rfl) (fun hk w hg => negated_num (u) hu w)) ?_
        refine Obs.cons (Ob.call' 89 #[numV (z5_3), numV (β 2)] rfl (fun w => by kernel_rfl) (fun hk w hg => equals_is (z5_3) (β 2) hz5_3 (hk 2 _ _ _ rfl (bindsTo_spec (by kernel_rfl))).1 true (decide_eq_true (hB.out.trans (hk 2 _ _ _ rfl (bindsTo_spec (by kernel_rfl))).2.symm)) w)) ?_
        refine Obs.cons (Ob.imm rfl (fun w => by kernel_rfl)) ?_
        exact Obs.nil
      replace hr_b0 := rangeAt_grown hr_b0 hD.gr
      replace hr_b1 := rangeAt_grown hr_b1 hD.gr
      replace hr_b3 := rangeAt_grown hr_b3 hD.gr
      replace hr_b4 := rangeAt_grown hr_b4 hD.gr
      replace hr_b5 := rangeAt_grown hr_b5 hD.gr
      replace hr_b6 := rangeAt_grown hr_b6 hD.gr
      replace ht_b2 := there_grown ht_b2 hD.gr
      replace ht_b3 := there_grown ht_b3 hD.gr
      replace ht_b4 := there_grown ht_b4 hD.gr
      replace ht_b5 := there_grown ht_b5 hD.gr
      replace ht_b6 := there_grown ht_b6 hD.gr
      have hz7_2 : (β 2) < M ∧ (β 2) % p = ng (u) := hD.an 2 _ _ _ rfl
      replace hW := grown_trans hW hD.gr
      clear hD
      simp only [finAct, putAll, valsFrom, Plan.value, Act.put, List.setIfInBounds_toArray, List.set_cons_zero, List.set_cons_succ]
      replace hGl := hGl0.grown hW
      generalize β (0 + 1 + 1) = z7_2 at *
      have hq7_2 := Hid.of hz7_2.2
      replace hz7_2 := hz7_2.1
      repeat ((fail_if_success (with_reducible show Code.wp _ (Code.region _ _ _) _ _ _)); go_step)
      refine wp_plain_fin [.val (numV (z4_7)), .val (numV (Im)), .any (fun z => numV (z)) [] (fun l z => z < M ∧ z % p = (z4_7) * (Im) % p), .fin, .imm (.bool true)] (b2) 0 (fun β => nl (β 2)) (by kernel_rfl) (fun β => ?_) (fun β w8 hD => ?_)
      · refine Obs.cons (Ob.load (b5) 0 (nl (z4_7)) rfl rfl (by kernel_rfl) hr_b5 Tryd.underlying68 rfl (by rw [nl_length]; exact infoN)) ?_
        refine Obs.cons (Ob.load (4) 0 (nl (Im)) rfl rfl (by kernel_rfl) hGl.g1.im Tryd.underlying68 rfl (by rw [nl_length]; exact infoN)) ?_
        refine Obs.cons (Ob.any 49 #[numV (z4_7), numV (Im)] rfl (fun w => by kernel_rfl) (fun hk w hg => times_num (z4_7) (Im) hz4_7 Im_M w)) ?_
        refine Obs.cons (Ob.fin rfl (by rw [nl_length]; exact ht_b2) rfl (by kernel_rfl) (by kernel_rfl) (by rw [nl_length]; exact infoN) (nl_one _)) ?_
        refine Obs.cons (Ob.imm rfl (fun w => by kernel_rfl)) ?_
        exact Obs.nil
      replace hr_b0 := rangeAt_grown hr_b0 hD.gr
      replace hr_b1 := rangeAt_grown hr_b1 hD.gr
      replace hr_b3 := rangeAt_grown hr_b3 hD.gr
      replace hr_b4 := rangeAt_grown hr_b4 hD.gr
      replace hr_b5 := rangeAt_grown hr_b5 hD.gr
      replace hr_b6 := rangeAt_grown hr_b6 hD.gr
      replace ht_b2 := there_grown ht_b2 hD.gr
      replace ht_b3 := there_grown ht_b3 hD.gr
      replace ht_b4 := there_grown ht_b4 hD.gr
      replace ht_b5 := there_grown ht_b5 hD.gr
      replace ht_b6 := there_grown ht_b6 hD.gr
      have hz8_2 : (β 2) < M ∧ (β 2) % p = (z4_7) * (Im) % p := hD.an 2 _ _ _ rfl
      replace hW := grown_trans hW hD.gr
      clear hD
      simp only [finAct, putAll, valsFrom, Plan.value, Act.put, List.setIfInBounds_toArray, List.set_cons_zero, List.set_cons_succ]
      replace hGl := hGl0.grown hW
      generalize β (0 + 1 + 1) = z8_2 at *
      have hq8_2 := Hid.of hz8_2.2
      replace hz8_2 := hz8_2.1
      have hs8 := World.rangeAt_setCells_same w8 (b2) 0 (nl (z8_2)) (by rw [nl_length]; exact ht_b2)
      replace hW := grown_setCells hf_b2 (nl (z8_2)) 0 hW
      generalize w8.setCells (b2) 0 (nl (z8_2)) = w8s at *
      repeat go_step
      refine bodyPost_ret (v := .tuple #[numV (z8_2), .bool true]) (result_cell_tmp Tryd.results52 _ _ (b2) (nl (z8_2)) (.bool true) ?hp ?hv hs8 Tryd.underlying68 rfl (by rw [nl_length]; exact infoN)) ?hd ?_
      case hp => rfl
      case hv => rfl
      case hd => rfl
      exact ⟨.inl ⟨rok_of_found hs1.out (.inr hB.out), z8_2, rfl, hz8_2, root_turn (hs2.out.symm.trans hB.out) hq8_2.out, fun hu => by rw [hq8_2.out, Nat.mul_mod, hs3.out hu]; simp⟩, hW⟩
    · have hB := Hid.of hB0
      clear hB0
      replace hr_b0 := rangeAt_grown hr_b0 (gdrew w6)
      replace hr_b1 := rangeAt_grown hr_b1 (gdrew w6)
      replace hr_b3 := rangeAt_grown hr_b3 (gdrew w6)
      replace hr_b4 := rangeAt_grown hr_b4 (gdrew w6)
      replace hr_b5 := rangeAt_grown hr_b5 (gdrew w6)
      replace hr_b6 := rangeAt_grown hr_b6 (gdrew w6)
      replace ht_b2 := there_grown ht_b2 (gdrew w6)
      replace ht_b3 := there_grown ht_b3 (gdrew w6)
      replace ht_b4 := there_grown ht_b4 (gdrew w6)
      replace ht_b5 := there_grown ht_b5 (gdrew w6)
      replace ht_b6 := there_grown ht_b6 (gdrew w6)
      replace hW := grown_trans hW (gdrew w6)
      replace hGl := hGl0.grown hW
      refine wp_loose [.val (numV (z5_3)), .val (numV (u)), .any (fun z => numV (z)) [] (fun l z => z < M ∧ z % p = ng (u)), .val (.bool false), .imm (.bool false)] (by kernel_rfl) (by kernel_rfl) (fun β => ?_) (fun β w7 hD => ?_)
      · refine Obs.cons (Ob.load (b6) 0 (nl (z5_3)) rfl rfl (by kernel_rfl) hr_b6 Tryd.underlying68 rfl (by rw [nl_length]; exact infoN)) ?_
        refine Obs.cons (Ob.load (b0) 0 (nl (u)) rfl rfl (by kernel_rfl) hr_b0 Tryd.underlying68 rfl (by rw [nl_length]; exact infoN)) ?_
        refine Obs.cons (Ob.any 54 #[numV (u)] rfl (fun w => by kernel_rfl) (fun hk w hg => negated_num (u) hu w)) ?_
        refine Obs.cons (Ob.call' 89 #[numV (z5_3), numV (β 2)] rfl (fun w => by kernel_rfl) (fun hk w hg => equals_is (z5_3) (β 2) hz5_3 (hk 2 _ _ _ rfl (bindsTo_spec (by kernel_rfl))).1 false (decide_eq_false (fun e => hB.out (e.trans (hk 2 _ _ _ rfl (bindsTo_spec (by kernel_rfl))).2))) w)) ?_
        refine Obs.cons (Ob.imm rfl (fun w => by kernel_rfl)) ?_
        exact Obs.nil
      replace hr_b0 := rangeAt_grown hr_b0 hD.gr
      replace hr_b1 := rangeAt_grown hr_b1 hD.gr
      replace hr_b3 := rangeAt_grown hr_b3 hD.gr
      replace hr_b4 := rangeAt_grown hr_b4 hD.gr
      replace hr_b5 := rangeAt_grown hr_b5 hD.gr
      replace hr_b6 := rangeAt_grown hr_b6 hD.gr
      replace ht_b2 := there_grown ht_b2 hD.gr
      replace ht_b3 := there_grown ht_b3 hD.gr
      replace ht_b4 := there_grown ht_b4 hD.gr
      replace ht_b5 := there_grown ht_b5 hD.gr
      replace ht_b6 := there_grown ht_b6 hD.gr
      have hz7_2 : (β 2) < M ∧ (β 2) % p = ng (u) := hD.an 2 _ _ _ rfl
      replace hW := grown_trans hW hD.gr
      clear hD
      simp only [finAct, putAll, valsFrom, Plan.value, Act.put, List.setIfInBounds_toArray, List.set_cons_zero, List.set_cons_succ]
      replace hGl := hGl0.grown hW
      generalize β (0 + 1 + 1) = z7_2 at *
      have hq7_2 := Hid.of hz7_2.2
      replace hz7_2 := hz7_2.1
      repeat ((fail_if_success (with_reducible show Code.wp _ (Code.region _ _ _) _ _ _)); go_step)
      refine wp_plain_fin [.imm (numV (0)), .fin, .imm (.bool false)] (b2) 0 (fun _ => nl (0)) (by kernel_rfl) (fun β => ?_) (fun β w8 hD => ?_)
      · refine Obs.cons (Ob.imm rfl (fun w => exec_build rfl (by kernel_rfl) (build_n0 w))) ?_
        refine Obs.cons (Ob.fin rfl (by rw [nl_length]; exact ht_b2) rfl (by kernel_rfl) (by kernel_rfl) (by rw [nl_length]; exact infoN) (nl_one _)) ?_
        refine Obs.cons (Ob.imm rfl (fun w => by kernel_rfl)) ?_
        exact Obs.nil
      replace hr_b0 := rangeAt_grown hr_b0 hD.gr
      replace hr_b1 := rangeAt_grown hr_b1 hD.gr
      replace hr_b3 := rangeAt_grown hr_b3 hD.gr
      replace hr_b4 := rangeAt_grown hr_b4 hD.gr
      replace hr_b5 := rangeAt_grown hr_b5 hD.gr
      replace hr_b6 := rangeAt_grown hr_b6 hD.gr
      replace ht_b2 := there_grown ht_b2 hD.gr
      replace ht_b3 := there_grown ht_b3 hD.gr
      replace ht_b4 := there_grown ht_b4 hD.gr
      replace ht_b5 := there_grown ht_b5 hD.gr
      replace ht_b6 := there_grown ht_b6 hD.gr
      replace hW := grown_trans hW hD.gr
      clear hD
      simp only [finAct, putAll, valsFrom, Plan.value, Act.put, List.setIfInBounds_toArray, List.set_cons_zero, List.set_cons_succ]
      replace hGl := hGl0.grown hW
      have hs8 := World.rangeAt_setCells_same w8 (b2) 0 (nl (0)) (by rw [nl_length]; exact ht_b2)
      replace hW := grown_setCells hf_b2 (nl (0)) 0 hW
      generalize w8.setCells (b2) 0 (nl (0)) = w8s at *
      repeat go_step
      refine bodyPost_ret (v := .tuple #[numV (0), .bool false]) (result_cell_tmp Tryd.results52 _ _ (b2) (nl (0)) (.bool false) ?hp ?hv hs8 Tryd.underlying68 rfl (by rw [nl_length]; exact infoN)) ?hd ?_
      case hp => rfl
      case hv => rfl
      case hd => rfl
      exact ⟨.inr ⟨rok_none hs1.out hA.out hB.out, rfl⟩, hW⟩

end Go.Proofs.YtoimglbjepppmaaDoor

namespace Go.Proofs.YtoimglbjepppmaaDoor
open Go.RowKit Go.Shelf FieldNum

theorem rootOfRatio_yes (u v : Nat) (hu : u < M) (hv : v < M) (h : rok u v) (w : World) (hGl0 : G1 w) :
    Calls Tryd.prog 52 #[numV u, numV v] w fun e w' => (∃ z, e = .returned (.tuple #[numV z, .bool true]) ∧ z < M ∧ v * (z * z) % p = u % p ∧ (u % p = 0 → z % p = 0)) ∧ Grown w w' :=
  (rootOfRatio_num u v hu hv w hGl0).mono fun _ _ ⟨a, b⟩ => ⟨a.elim (fun x => x.2) (fun x => absurd h x.1), b⟩
theorem rootOfRatio_no (u v : Nat) (hu : u < M) (hv : v < M) (h : ¬ rok u v) (w : World) (hGl0 : G1 w) :
    Calls Tryd.prog 52 #[numV u, numV v] w fun e w' => e = .returned (.tuple #[numV 0, .bool false]) ∧ Grown w w' :=
  (rootOfRatio_num u v hu hv w hGl0).mono fun _ _ ⟨a, b⟩ => ⟨a.elim (fun x => absurd x.1 h) (fun x => x.2), b⟩

set_option maxRecDepth 100000 in
set_option maxHeartbeats 2000000 in
theorem SqrtRatio_no (u v : Nat) (hu : u < M) (hv : v < M) (h : ¬ rok u v) (w : World) (hGl0 : G1 w) :
    Calls Tryd.prog 16 #[bv u, bv v] w fun e w' => e = .returned (.tuple #[bv 0, .bool false]) ∧ Grown w w' := by
  have hW := Grown.refl w
  have hGl := hGl0
  go_enter Tryd.func16, Tryd.ntmps16
  repeat ((fail_if_success (with_reducible show Code.wp _ (Code.region _ _ _) _ _ _)); go_step)
  refine wp_plain [.box 23 (bl (u)), .box 23 (bl (v)), .new 23 32, .imm (.bool false)] (by kernel_rfl) (fun β => ?_) (fun β w1 hD => ?_)
  · refine Obs.cons (Ob.box rfl rfl (by kernel_rfl)) ?_
    refine Obs.cons (Ob.box rfl rfl (by kernel_rfl)) ?_
    refine Obs.cons (Ob.new _ rfl rfl zero32.1 (by simp [bl_length])) ?_
    refine Obs.cons (Ob.imm rfl (fun w => by kernel_rfl)) ?_
    exact Obs.nil
  obtain ⟨hf_b0, hr_b0⟩ := hD.bx 0 _ _ rfl
  replace hf_b0 := Nat.le_trans hW.2.2 hf_b0
  obtain ⟨hf_b1, hr_b1⟩ := hD.bx 1 _ _ rfl
  replace hf_b1 := Nat.le_trans hW.2.2 hf_b1
  obtain ⟨hf_b2, ht_b2⟩ := hD.nw 2 _ _ rfl
  replace hf_b2 := Nat.le_trans hW.2.2 hf_b2
  replace hW := grown_trans hW hD.gr
  clear hD
  simp only [finAct, putAll, valsFrom, Plan.value, Act.put, List.setIfInBounds_toArray, List.set_cons_zero, List.set_cons_succ]
  replace hGl := hGl0.grown hW
  generalize β 0 = b0 at *
  generalize β (0 + 1) = b1 at *
  generalize β (0 + 1 + 1) = b2 at *
  repeat ((fail_if_success (with_reducible show Code.wp _ (Code.region _ _ _) _ _ _)); go_step)
  replace hr_b0 := rangeAt_grown hr_b0 (gdrew w1)
  replace hr_b1 := rangeAt_grown hr_b1 (gdrew w1)
  replace ht_b2 := there_grown ht_b2 (gdrew w1)
  replace hW := grown_trans hW (gdrew w1)
  replace hGl := hGl0.grown hW
  refine wp_loose [.val (bv (u)), .val (numV (u)), .val (bv (v)), .val (numV (v)), .val (.tuple #[numV (0), .bool false]), .imm (.tuple #[numV (0), .bool false]), .imm (numV (0)), .imm (.bool false), .new 68 4, .put 8 8 (fun _ => nl (0)), .imm (.bool false)] (by kernel_rfl) (by kernel_rfl) (fun β => ?_) (fun β w2 hD => ?_)
  · refine Obs.cons (Ob.load (b0) 0 (bl (u)) rfl rfl (by kernel_rfl) hr_b0 Tryd.underlying23 rfl (by rw [bl_length]; exact info32)) ?_
    refine Obs.cons (Ob.call 47 #[bv (u)] rfl (fun w => by kernel_rfl) (fun w hg => load_num (u) w)) ?_
    refine Obs.cons (Ob.load (b1) 0 (bl (v)) rfl rfl (by kernel_rfl) hr_b1 Tryd.underlying23 rfl (by rw [bl_length]; exact info32)) ?_
    refine Obs.cons (Ob.call 47 #[bv (v)] rfl (fun w => by kernel_rfl) (fun w hg => load_num (v) w)) ?_
    refine Obs.cons (Ob.call 52 #[numV (u), numV (v)] rfl (fun w => by kernel_rfl) (fun w hg => rootOfRatio_no (u) (v) hu hv h w (hGl.grown hg).g1)) ?_
    refine Obs.cons (Ob.imm rfl (fun w => by kernel_rfl)) ?_
    refine Obs.cons (Ob.imm rfl (fun w => by kernel_rfl)) ?_
    refine Obs.cons (Ob.imm rfl (fun w => by kernel_rfl)) ?_
    refine Obs.cons (Ob.new _ rfl rfl zeroN (by simp [nl_length])) ?_
    refine Obs.cons (Ob.put 68 rfl rfl rfl (by kernel_rfl) (by kernel_rfl) (by rw [nl_length]; exact infoN) (nl_one _)) ?_
    refine Obs.cons (Ob.imm rfl (fun w => by kernel_rfl)) ?_
    exact Obs.nil
  replace hr_b0 := rangeAt_grown hr_b0 hD.gr
  replace hr_b1 := rangeAt_grown hr_b1 hD.gr
  replace ht_b2 := there_grown ht_b2 hD.gr
  obtain ⟨hf_b3, ht_b3⟩ := hD.nw 8 _ _ rfl
  have hr_b3 : w2.rangeAt (β 8) 0 (nl (0)) := hD.rg 9 8 8 (fun _ => nl (0)) rfl
  replace hf_b3 := Nat.le_trans hW.2.2 hf_b3
  replace hW := grown_trans hW hD.gr
  clear hD
  simp only [finAct, putAll, valsFrom, Plan.value, Act.put, List.setIfInBounds_toArray, List.set_cons_zero, List.set_cons_succ]
  replace hGl := hGl0.grown hW
  generalize β (0 + 1 + 1 + 1 + 1 + 1 + 1 + 1 + 1) = b3 at *
  repeat ((fail_if_success (with_reducible show Code.wp _ (Code.region _ _ _) _ _ _)); go_step)
  refine wp_plain [.imm (.bool false), .imm (.bool true)] (by kernel_rfl) (fun β => ?_) (fun β w3 hD => ?_)
  · refine Obs.cons (Ob.imm rfl (fun w => by kernel_rfl)) ?_
    refine Obs.cons (Ob.imm rfl (fun w => by kernel_rfl)) ?_
    exact Obs.nil
  replace hr_b0 := rangeAt_grown hr_b0 hD.gr
  replace hr_b1 := rangeAt_grown hr_b1 hD.gr
  replace hr_b3 := rangeAt_grown hr_b3 hD.gr
  replace ht_b2 := there_grown ht_b2 hD.gr
  replace ht_b3 := there_grown ht_b3 hD.gr
  replace hW := grown_trans hW hD.gr
  clear hD
  simp only [finAct, putAll, valsFrom, Plan.value, Act.put, List.setIfInBounds_toArray, List.set_cons_zero, List.set_cons_succ]
  replace hGl := hGl0.grown hW
  repeat ((fail_if_success (with_reducible show Code.wp _ (Code.region _ _ _) _ _ _)); go_step)
  refine wp_plain_fin [.imm (bv (0)), .fin, .imm (.bool false)] (b2) 0 (fun _ => bl (0)) (by kernel_rfl) (fun β => ?_) (fun β w4 hD => ?_)
  · refine Obs.cons (Ob.imm rfl (fun w => exec_build rfl (by kernel_rfl) (build_b0 w))) ?_
    refine Obs.cons (Ob.fin rfl (by rw [bl_length]; exact ht_b2) rfl (by kernel_rfl) (by kernel_rfl) (by rw [bl_length]; exact info32) (bl_one _)) ?_
    refine Obs.cons (Ob.imm rfl (fun w => by kernel_rfl)) ?_
    exact Obs.nil
  replace hr_b0 := rangeAt_grown hr_b0 hD.gr
  replace hr_b1 := rangeAt_grown hr_b1 hD.gr
  replace hr_b3 := rangeAt_grown hr_b3 hD.gr
  replace ht_b2 := there_grown ht_b2 hD.gr
  replace ht_b3 := there_grown ht_b3 hD.gr
  replace hW := grown_trans hW hD.gr
  clear hD
  simp only [finAct, putAll, valsFrom, Plan.value, Act.put, List.setIfInBounds_toArray, List.set_cons_zero, List.set_cons_succ]
  replace hGl := hGl0.grown hW
  have hs4 := World.rangeAt_setCells_same w4 (b2) 0 (bl (0)) (by rw [bl_length]; exact ht_b2)
  replace hW := grown_setCells hf_b2 (bl (0)) 0 hW
  generalize w4.setCells (b2) 0 (bl (0)) = w4s at *
  repeat go_step
  refine bodyPost_ret (v := .tuple #[bv (0), .bool false]) (result_cell_tmp Tryd.results16 _ _ (b2) _ (.bool false) ?hp ?hv hs4 Tryd.underlying23 rfl (by rw [bl_length]; exact info32)) ?hd ?_
  case hp => rfl
  case hv => rfl
  case hd => rfl
  exact ⟨rfl, hW⟩

set_option maxRecDepth 100000 in
set_option maxHeartbeats 2000000 in
theorem SqrtRatio_yes (u v : Nat) (hu : u < M) (hv : v < M) (h : rok u v) (w : World) (hGl0 : G1 w) :
    Calls Tryd.prog 16 #[bv u, bv v] w fun e w' => e = .returned (.tuple #[bv (rt u v), .bool true]) ∧ Grown w w' := by
  have hW := Grown.refl w
  have hGl := hGl0
  go_enter Tryd.func16, Tryd.ntmps16
  repeat ((fail_if_success (with_reducible show Code.wp _ (Code.region _ _ _) _ _ _)); go_step)
  refine wp_plain [.box 23 (bl (u)), .box 23 (bl (v)), .new 23 32, .imm (.bool false)] (by kernel_rfl) (fun β => ?_) (fun β w1 hD => ?_)
  · refine Obs.cons (Ob.box rfl rfl (by kernel_rfl)) ?_
    refine Obs.cons (Ob.box rfl rfl (by kernel_rfl)) ?_
    refine Obs.cons (Ob.new _ rfl rfl zero32.1 (by simp [bl_length])) ?_
    refine Obs.cons (Ob.imm rfl (fun w => by kernel_rfl)) ?_
    exact Obs.nil
  obtain ⟨hf_b0, hr_b0⟩ := hD.bx 0 _ _ rfl
  replace hf_b0 := Nat.le_trans hW.2.2 hf_b0
  obtain ⟨hf_b1, hr_b1⟩ := hD.bx 1 _ _ rfl
  replace hf_b1 := Nat.le_trans hW.2.2 hf_b1
  obtain ⟨hf_b2, ht_b2⟩ := hD.nw 2 _ _ rfl
  replace hf_b2 := Nat.le_trans hW.2.2 hf_b2
  replace hW := grown_trans hW hD.gr
  clear hD
  simp only [finAct, putAll, valsFrom, Plan.value, Act.put, List.setIfInBounds_toArray, List.set_cons_zero, List.set_cons_succ]
  replace hGl := hGl0.grown hW
  generalize β 0 = b0 at *
  generalize β (0 + 1) = b1 at *
  generalize β (0 + 1 + 1) = b2 at *
  repeat ((fail_if_success (with_reducible show Code.wp _ (Code.region _ _ _) _ _ _)); go_step)
  replace hr_b0 := rangeAt_grown hr_b0 (gdrew w1)
  replace hr_b1 := rangeAt_grown hr_b1 (gdrew w1)
  replace ht_b2 := there_grown ht_b2 (gdrew w1)
  replace hW := grown_trans hW (gdrew w1)
  replace hGl := hGl0.grown hW
  refine wp_loose [.val (bv (u)), .val (numV (u)), .val (bv (v)), .val (numV (v)), .any (fun z => .tuple #[numV (z), .bool true]) [] (fun l z => z < M ∧ v * (z * z) % p = u % p ∧ (u % p = 0 → z % p = 0)), .any (fun z => .tuple #[numV (z), .bool true]) [4] (fun l b => b = l.getD 0 0), .any (fun z => numV (z)) [5] (fun l b => b = l.getD 0 0), .imm (.bool true), .new 68 4, .put 8 6 (fun z => nl (z)), .imm (.bool true)] (by kernel_rfl) (by kernel_rfl) (fun β => ?_) (fun β w2 hD => ?_)
  · refine Obs.cons (Ob.load (b0) 0 (bl (u)) rfl rfl (by kernel_rfl) hr_b0 Tryd.underlying23 rfl (by rw [bl_length]; exact info32)) ?_
    refine Obs.cons (Ob.call 47 #[bv (u)] rfl (fun w => by kernel_rfl) (fun w hg => load_num (u) w)) ?_
    refine Obs.cons (Ob.load (b1) 0 (bl (v)) rfl rfl (by kernel_rfl) hr_b1 Tryd.underlying23 rfl (by rw [bl_length]; exact info32)) ?_
    refine Obs.cons (Ob.call 47 #[bv (v)] rfl (fun w => by kernel_rfl) (fun w hg => load_num (v) w)) ?_
    refine Obs.cons (Ob.any 52 #[numV (u), numV (v)] rfl (fun w => by kernel_rfl) (fun hk w hg => rootOfRatio_yes (u) (v) hu hv h w (hGl.grown hg).g1)) ?_
    refine Obs.cons (Ob.der (β 4) rfl (fun _ w => by kernel_rfl) (fun _ => rfl)) ?_
    refine Obs.cons (Ob.der (β 5) rfl (fun _ w => by kernel_rfl) (fun _ => rfl)) ?_
    refine Obs.cons (Ob.imm rfl (fun w => by kernel_rfl)) ?_
    refine Obs.cons (Ob.new _ rfl rfl zeroN (by simp [nl_length])) ?_
    refine Obs.cons (Ob.put 68 rfl rfl rfl (by kernel_rfl) (by kernel_rfl) (by rw [nl_length]; exact infoN) (nl_one _)) ?_
    refine Obs.cons (Ob.imm rfl (fun w => by kernel_rfl)) ?_
    exact Obs.nil
  replace hr_b0 := rangeAt_grown hr_b0 hD.gr
  replace hr_b1 := rangeAt_grown hr_b1 hD.gr
  replace ht_b2 := there_grown ht_b2 hD.gr
  obtain ⟨hf_b3, ht_b3⟩ := hD.nw 8 _ _ rfl
  have hr_b3 : w2.rangeAt (β 8) 0 (nl (β 6)) := hD.rg 9 8 6 (fun z => nl (z)) rfl
  replace hf_b3 := Nat.le_trans hW.2.2 hf_b3
  have hz2_4 : (β 4) < M ∧ v * ((β 4) * (β 4)) % p = u % p ∧ (u % p = 0 → (β 4) % p = 0) := hD.an 4 _ _ _ rfl
  have hz2_5 : β 4 = β 5 := (hD.an 5 _ _ _ rfl : β 5 = β 4).symm
  have hz2_6 : β 5 = β 6 := (hD.an 6 _ _ _ rfl : β 6 = β 5).symm
  replace hW := grown_trans hW hD.gr
  clear hD
  simp only [finAct, putAll, valsFrom, Plan.value, Act.put, List.setIfInBounds_toArray, List.set_cons_zero, List.set_cons_succ]
  replace hGl := hGl0.grown hW
  generalize β (0 + 1 + 1 + 1 + 1 + 1 + 1 + 1 + 1) = b3 at *
  generalize β (0 + 1 + 1 + 1 + 1) = z2_4 at *
  generalize β (0 + 1 + 1 + 1 + 1 + 1) = z2_5 at *
  generalize β (0 + 1 + 1 + 1 + 1 + 1 + 1) = z2_6 at *
  subst hz2_5
  subst hz2_6
  have hq2_4 := Hid.of hz2_4.2
  replace hz2_4 := hz2_4.1
  repeat ((fail_if_success (with_reducible show Code.wp _ (Code.region _ _ _) _ _ _)); go_step)
  refine wp_plain [.imm (.bool true), .imm (.bool false)] (by kernel_rfl) (fun β => ?_) (fun β w3 hD => ?_)
  · refine Obs.cons (Ob.imm rfl (fun w => by kernel_rfl)) ?_
    refine Obs.cons (Ob.imm rfl (fun w => by kernel_rfl)) ?_
    exact Obs.nil
  replace hr_b0 := rangeAt_grown hr_b0 hD.gr
  replace hr_b1 := rangeAt_grown hr_b1 hD.gr
  replace hr_b3 := rangeAt_grown hr_b3 hD.gr
  replace ht_b2 := there_grown ht_b2 hD.gr
  replace ht_b3 := there_grown ht_b3 hD.gr
  replace hW := grown_trans hW hD.gr
  clear hD
  simp only [finAct, putAll, valsFrom, Plan.value, Act.put, List.setIfInBounds_toArray, List.set_cons_zero, List.set_cons_succ]
  replace hGl := hGl0.grown hW
  repeat ((fail_if_success (with_reducible show Code.wp _ (Code.region _ _ _) _ _ _)); go_step)
  by_cases hO0 : z2_4 % p % 2 = 1
  · have hO := Hid.of hO0
    clear hO0
    refine wp_plain [.val (numV (z2_4)), .val (.bool true)] (by kernel_rfl) (fun β => ?_) (fun β w4 hD => ?_)
    · refine Obs.cons (Ob.load (b3) 0 (nl (z2_4)) rfl rfl (by kernel_rfl) hr_b3 Tryd.underlying68 rfl (by rw [nl_length]; exact infoN)) ?_
      refine Obs.cons (Ob.call 53 #[numV (z2_4)] rfl (fun w => by kernel_rfl) (fun w hg => oddn_is (z2_4) hz2_4 true (decide_eq_true hO.out) w)) ?_
      exact Obs.nil
    replace hr_b0 := rangeAt_grown hr_b0 hD.gr
    replace hr_b1 := rangeAt_grown hr_b1 hD.gr
    replace hr_b3 := rangeAt_grown hr_b3 hD.gr
    replace ht_b2 := there_grown ht_b2 hD.gr
    replace ht_b3 := there_grown ht_b3 hD.gr
    replace hW := grown_trans hW hD.gr
    clear hD
    simp only [finAct, putAll, valsFrom, Plan.value, Act.put, List.setIfInBounds_toArray, List.set_cons_zero, List.set_cons_succ]
    replace hGl := hGl0.grown hW
    repeat ((fail_if_success (with_reducible show Code.wp _ (Code.region _ _ _) _ _ _)); go_step)
    refine wp_plain_fin [.val (numV (z2_4)), .any (fun z => numV (z)) [] (fun l z => z < M ∧ z % p = ng (z2_4)), .fin] (b3) 0 (fun β => nl (β 1)) (by kernel_rfl) (fun β => ?_) (fun β w5 hD => ?_)
    · refine Obs.cons (Ob.load (b3) 0 (nl (z2_4)) rfl rfl (by kernel_rfl) hr_b3 Tryd.underlying68 rfl (by rw [nl_length]; exact infoN)) ?_
      refine Obs.cons (Ob.any 54 #[numV (z2_4)] rfl (fun w => by kernel_rfl) (fun hk w hg => negated_num (z2_4) hz2_4 w)) ?_
      refine Obs.cons (Ob.fin rfl (by rw [nl_length]; exact ht_b3) rfl (by kernel_rfl) (by kernel_rfl) (by rw [nl_length]; exact infoN) (nl_one _)) ?_
      exact Obs.nil
    replace hr_b0 := rangeAt_grown hr_b0 hD.gr
    replace hr_b1 := rangeAt_grown hr_b1 hD.gr
    replace hr_b3 := rangeAt_grown hr_b3 hD.gr
    replace ht_b2 := there_grown ht_b2 hD.gr
    replace ht_b3 := there_grown ht_b3 hD.gr
    have hz5_1 : (β 1) < M ∧ (β 1) % p = ng (z2_4) := hD.an 1 _ _ _ rfl
    replace hW := grown_trans hW hD.gr
    clear hD
    simp only [finAct, putAll, valsFrom, Plan.value, Act.put, List.setIfInBounds_toArray, List.set_cons_zero, List.set_cons_succ]
    replace hGl := hGl0.grown hW
    generalize β (0 + 1) = z5_1 at *
    have hq5_1 := Hid.of hz5_1.2
    replace hz5_1 := hz5_1.1
    have hs5 := World.rangeAt_setCells_same w5 (b3) 0 (nl (z5_1)) (by rw [nl_length]; exact ht_b3)
    replace hW := grown_setCells hf_b3 (nl (z5_1)) 0 hW
    replace ht_b2 := World.there_setCells ht_b2 (b3) 0 (nl (z5_1))
    replace ht_b3 := World.there_setCells ht_b3 (b3) 0 (nl (z5_1))
    replace hGl := hGl0.grown hW
    generalize w5.setCells (b3) 0 (nl (z5_1)) = w5s at *
    repeat ((fail_if_success (with_reducible show Code.wp _ (Code.region _ _ _) _ _ _)); go_step)
    refine wp_plain_fin [.val (numV (z5_1)), .val (bv ((z5_1) % p)), .fin, .imm (.bool true)] (b2) 0 (fun _ => bl ((z5_1) % p)) (by kernel_rfl) (fun β => ?_) (fun β w6 hD => ?_)
    · refine Obs.cons (Ob.load (b3) 0 (nl (z5_1)) rfl rfl (by kernel_rfl) hs5 Tryd.underlying68 rfl (by rw [nl_length]; exact infoN)) ?_
      refine Obs.cons (Ob.call 51 #[numV (z5_1)] rfl (fun w => by kernel_rfl) (fun w hg => bytes_num (z5_1) hz5_1 w)) ?_
      refine Obs.cons (Ob.fin rfl (by rw [bl_length]; exact ht_b2) rfl (by kernel_rfl) (by kernel_rfl) (by rw [bl_length]; exact info32) (bl_one _)) ?_
      refine Obs.cons (Ob.imm rfl (fun w => by kernel_rfl)) ?_
      exact Obs.nil
    replace hs5 := rangeAt_grown hs5 hD.gr
    replace ht_b2 := there_grown ht_b2 hD.gr
    replace ht_b3 := there_grown ht_b3 hD.gr
    replace hW := grown_trans hW hD.gr
    clear hD
    simp only [finAct, putAll, valsFrom, Plan.value, Act.put, List.setIfInBounds_toArray, List.set_cons_zero, List.set_cons_succ]
    replace hGl := hGl0.grown hW
    have hs6 := World.rangeAt_setCells_same w6 (b2) 0 (bl ((z5_1) % p)) (by rw [bl_length]; exact ht_b2)
    replace hW := grown_setCells hf_b2 (bl ((z5_1) % p)) 0 hW
    generalize w6.setCells (b2) 0 (bl ((z5_1) % p)) = w6s at *
    repeat go_step
    refine bodyPost_ret (v := .tuple #[bv ((z5_1) % p), .bool true]) (result_cell_tmp Tryd.results16 _ _ (b2) _ (.bool true) ?hp ?hv hs6 Tryd.underlying23 rfl (by rw [bl_length]; exact info32)) ?hd ?_
    case hp => rfl
    case hv => rfl
    case hd => rfl
    have hrt := root_odd hq2_4.out.1 hq2_4.out.2 hO.out
    refine ⟨?_, hW⟩
    rw [rt_eq hrt, ← hq5_1.out]
  · have hO := Hid.of hO0
    clear hO0
    refine wp_plain [.val (numV (z2_4)), .val (.bool false)] (by kernel_rfl) (fun β => ?_) (fun β w4 hD => ?_)
    · refine Obs.cons (Ob.load (b3) 0 (nl (z2_4)) rfl rfl (by kernel_rfl) hr_b3 Tryd.underlying68 rfl (by rw [nl_length]; exact infoN)) ?_
      refine Obs.cons (Ob.call 53 #[numV (z2_4)] rfl (fun w => by kernel_rfl) (fun w hg => oddn_is (z2_4) hz2_4 false (decide_eq_false hO.out) w)) ?_
      exact Obs.nil
    replace hr_b0 := rangeAt_grown hr_b0 hD.gr
    replace hr_b1 := rangeAt_grown hr_b1 hD.gr
    replace hr_b3 := rangeAt_grown hr_b3 hD.gr
    replace ht_b2 := there_grown ht_b2 hD.gr
    replace ht_b3 := there_grown ht_b3 hD.gr
    replace hW := grown_trans hW hD.gr
    clear hD
    simp only [finAct, putAll, valsFrom, Plan.value, Act.put, List.setIfInBounds_toArray, List.set_cons_zero, List.set_cons_succ]
    replace hGl := hGl0.grown hW
    repeat ((fail_if_success (with_reducible show Code.wp _ (Code.region _ _ _) _ _ _)); go_step)
    refine wp_plain_fin [.val (numV (z2_4)), .val (bv ((z2_4) % p)), .fin, .imm (.bool true)] (b2) 0 (fun _ => bl ((z2_4) % p)) (by kernel_rfl) (fun β => ?_) (fun β w5 hD => ?_)
    · refine Obs.cons (Ob.load (b3) 0 (nl (z2_4)) rfl rfl (by kernel_rfl) hr_b3 Tryd.underlying68 rfl (by rw [nl_length]; exact infoN)) ?_
      refine Obs.cons (Ob.call 51 #[numV (z2_4)] rfl (fun w => by kernel_rfl) (fun w hg => bytes_num (z2_4) hz2_4 w)) ?_
      refine Obs.cons (Ob.fin rfl (by rw [bl_length]; exact ht_b2) rfl (by kernel_rfl) (by kernel_rfl) (by rw [bl_length]; exact info32) (bl_one _)) ?_
      refine Obs.cons (Ob.imm rfl (fun w => by kernel_rfl)) ?_
      exact Obs.nil
    replace hr_b0 := rangeAt_grown hr_b0 hD.gr
    replace hr_b1 := rangeAt_grown hr_b1 hD.gr
    replace hr_b3 := rangeAt_grown hr_b3 hD.gr
    replace ht_b2 := there_grown ht_b2 hD.gr
    replace ht_b3 := there_grown ht_b3 hD.gr
    replace hW := grown_trans hW hD.gr
    clear hD
    simp only [finAct, putAll, valsFrom, Plan.value, Act.put, List.setIfInBounds_toArray, List.set_cons_zero, List.set_cons_succ]
    replace hGl := hGl0.grown hW
    have hs5 := World.rangeAt_setCells_same w5 (b2) 0 (bl ((z2_4) % p)) (by rw [bl_length]; exact ht_b2)
    replace hW := grown_setCells hf_b2 (bl ((z2_4) % p)) 0 hW
    generalize w5.setCells (b2) 0 (bl ((z2_4) % p)) = w5s at *
    repeat go_step
    refine bodyPost_ret (v := .tuple #[bv ((z2_4) % p), .bool true]) (result_cell_tmp Tryd.results16 _ _ (b2) _ (.bool true) ?hp ?hv hs5 Tryd.underlying23 rfl (by rw [bl_length]; exact info32)) ?hd ?_
    case hp => rfl
    case hv => rfl
    case hd => rfl
    have hrt := root_even hq2_4.out.1 hq2_4.out.2 hO.out
    refine ⟨?_, hW⟩
    rw [rt_eq hrt]

end Go.Proofs.YtoimglbjepppmaaDoor

namespace Go.Proofs.YtoimglbjepppmaaDoor
open Go.RowKit Go.Shelf FieldNum

theorem run_load8 {b off : Nat} {c : Int} (w : World) (h : w.cell? ⟨b, off, none⟩ = some (.int .u8 c)) : (Instr.loadAt 5 (.pointer (some ⟨b, off, none⟩))).run Tryd.prog w = .ok (.int .u8 c) w := by
  go_simp
theorem run_store8 {b off : Nat} {c : Int} (w : World) (v0 : Value) (h : w.cell? ⟨b, off, none⟩ = some v0) (hf : w.frozen? ⟨b, off, none⟩ = false) : (Instr.storeAt 5 (.pointer (some ⟨b, off, none⟩)) (.int .u8 c)).run Tryd.prog w = .ok () (w.setCell ⟨b, off, none⟩ (.int .u8 c)) := by
  go_simp

section
variable {o : Oper} {ρ : Operand → Value} {x y : Operand} {t : TypeId} {w : World}
theorem exec_idx {b : Nat} (i : Nat) (hi : i < 32) (ho : o.op = .indexAddr 23 x y) (hx : ρ x = .pointer (some ⟨b, 0, none⟩)) (hy : ρ y = .int .i64 i) : (execOp ρ o).run Tryd.prog w = .ok (.value (.pointer (some ⟨b, i, none⟩))) w := by
  unfold execOp
  simp only [ho, hx, hy]
  go_simp
  intro h
  omega
theorem exec_and8 (c d r : Nat) (ho : o.op = .binOp .and 5 x y t) (hx : ρ x = .int .u8 c) (hy : ρ y = .int .u8 d) (hr : bits .and .u8 c d = r) : (execOp ρ o).run Tryd.prog w = .ok (.value (.int .u8 r)) w := by
  unfold execOp
  simp only [ho, hx, hy]
  simp [go_sem, hr]
theorem exec_andNot8 (c d r : Nat) (ho : o.op = .binOp .andNot 5 x y t) (hx : ρ x = .int .u8 c) (hy : ρ y = .int .u8 d) (hr : bits .andNot .u8 c d = r) : (execOp ρ o).run Tryd.prog w = .ok (.value (.int .u8 r)) w := by
  unfold execOp
  simp only [ho, hx, hy]
  simp [go_sem, hr]
theorem exec_or8 (c d r : Nat) (ho : o.op = .binOp .or 5 x y t) (hx : ρ x = .int .u8 c) (hy : ρ y = .int .u8 d) (hr : bits .or .u8 c d = r) : (execOp ρ o).run Tryd.prog w = .ok (.value (.int .u8 r)) w := by
  unfold execOp
  simp only [ho, hx, hy]
  simp [go_sem, hr]
theorem exec_neq8 (c d : Nat) (ho : o.op = .binOp .neq 5 x y t) (hx : ρ x = .int .u8 c) (hy : ρ y = .int .u8 d) (b : Bool) (hb : (!decide (c = d)) = b) : (execOp ρ o).run Tryd.prog w = .ok (.value (.bool b)) w := by
  subst hb
  unfold execOp
  simp only [ho, hx, hy]
  simp [go_sem]
  by_cases h : c = d
  · simp [h]
  · have h2 : ¬ (c : Int) = d := by omega
    simp [h, h2]
theorem exec_geq8 (c d : Nat) (ho : o.op = .binOp .geq 5 x y t) (hx : ρ x = .int .u8 c) (hy : ρ y = .int .u8 d) (b : Bool) (hb : decide (d ≤ c) = b) : (execOp ρ o).run Tryd.prog w = .ok (.value (.bool b)) w := by
  subst hb
  unfold execOp
  simp only [ho, hx, hy]
  simp [go_sem]
theorem exec_rem8' (c : Nat) (ho : o.op = .binOp .rem 5 x y t) (hx : ρ x = .int .u8 c) (hy : ρ y = .int .u8 2) (hc : c < 256) : (execOp ρ o).run Tryd.prog w = .ok (.value (.int .u8 ((c % 2 : Nat) : Int))) w := exec_rem8 ho c hc hx hy
end

theorem and128_lo : ∀ c : Fin 256, c.val < 128 → bits .and .u8 (c.val : Nat) (128 : Nat) = (0 : Nat) := by decide +kernel
theorem and128_hi : ∀ c : Fin 256, ¬ c.val < 128 → bits .and .u8 (c.val : Nat) (128 : Nat) = (128 : Nat) := by decide +kernel
theorem and127 : ∀ c : Fin 256, bits .and .u8 (c.val : Nat) (127 : Nat) = (c.val % 128 : Nat) := by decide +kernel
theorem andNot128 : ∀ c : Fin 256, bits .andNot .u8 (c.val : Nat) (128 : Nat) = (c.val % 128 : Nat) := by decide +kernel
theorem or128 : ∀ c : Fin 256, c.val < 128 → bits .or .u8 (c.val : Nat) (128 : Nat) = (c.val + 128 : Nat) := by decide +kernel

/-- 2^255 -/
def H : Nat := 57896044618658097711785492504343953926634992332820282019728792003956564819968
/-- the highest byte -/
def top (b : Nat) : Nat := b / 256 ^ 31 % 256
theorem top_lt (b : Nat) : top b < 256 := Nat.mod_lt _ (by decide)
theorem top_big {b : Nat} (hb : b < M) : top b < 128 ↔ b < H := by
  unfold top H
  unfold M at hb
  have e : 256 ^ 31 = 452312848583266388373324160190187140051835877600158453279131187530910662656 := by decide
  rw [e]
  omega
theorem H_split (i : Nat) (hi : i < 31) : H = 256 ^ i * (256 * (256 ^ (30 - i) * 128)) := by
  have e : 256 ^ i * (256 * (256 ^ (30 - i) * 128)) = 256 ^ (i + 1 + (30 - i)) * 128 := by rw [Nat.pow_add, Nat.pow_add]; grind
  rw [e, show i + 1 + (30 - i) = 31 by omega]
  decide
theorem low_byte (b i : Nat) (hi : i < 31) : b % H / 256 ^ i % 256 = b / 256 ^ i % 256 := by
  rw [H_split i hi, Nat.mod_mul_right_div_self, Nat.mod_mul_right_mod]
theorem top_low (b : Nat) : top (b % H) = top b % 128 := by
  unfold top H
  have e : 256 ^ 31 = 452312848583266388373324160190187140051835877600158453279131187530910662656 := by decide
  rw [e]
  omega
theorem low_lt (b : Nat) : b % H < M := Nat.lt_trans (Nat.mod_lt _ (by decide)) (by decide)

theorem rangeAt_top {w : World} {b n m : Nat} (h : w.rangeAt b 0 (bl n)) (hl : ∀ i, i < 31 → m / 256 ^ i % 256 = n / 256 ^ i % 256) : (w.setCell ⟨b, 31, none⟩ (.int .u8 (top m))).rangeAt b 0 (bl m) := by
  intro j v hv
  have hj : j < 32 := by have := lt_of_get hv; rwa [bl_length] at this
  rw [bl_get m j hj] at hv
  injection hv with hv
  subst hv
  rw [Nat.zero_add]
  by_cases e : j = 31
  · subst e
    have h0 := h 31 _ (bl_get n 31 (by decide))
    simp only [Nat.zero_add] at h0
    simp [go_sem, h0, top]
  · have h0 := h j _ (bl_get n j hj)
    rw [Nat.zero_add] at h0
    rw [World.cell?_setCell_other]
    · rw [h0, hl j (by omega)]
    · intro e2
      injection e2 with _ e3 _
      omega
theorem cell_top {w : World} {b n : Nat} (h : w.rangeAt b 0 (bl n)) : w.cell? ⟨b, 31, none⟩ = some (.int .u8 (top n)) := by
  have h0 := h 31 _ (bl_get n 31 (by decide))
  rw [Nat.zero_add] at h0
  exact h0

theorem ne_of_fresh {w : World} {b c n : Nat} (h : w.rangeAt b 0 (bl n)) (hf : w.heap.size ≤ c) : b ≠ c := by
  have : b < w.heap.size := block_lt_of_cell (cell_top h)
  omega
theorem there_31 {w : World} {b : Nat} (h : w.there b 0 32) : w.there b 31 1 := by
  intro j hj
  have : j = 0 := by omega
  subst this
  exact h 31 (by decide)
end Go.Proofs.YtoimglbjepppmaaDoor

namespace Go.Proofs.YtoimglbjepppmaaDoor
open Go.RowKit Go.Shelf FieldNum

theorem rt_M (u v : Nat) : rt u v < M := Nat.lt_of_le_of_lt (rt_le u v) (by decide)
theorem not_low {b : Nat} (hb : b < M) (hs : ¬ b < H) : ¬ top b < 128 := fun h => hs ((top_big hb).1 h)

set_option maxRecDepth 100000 in
set_option maxHeartbeats 2000000 in
theorem D_high0 (b : Nat) (hb : b < M) (hs :  b < H) (hy : ¬ b % H < p) (w : World) (hGl0 : G3 w) :
    Calls Tryd.prog 28 #[bv b] w fun e w' => e = .returned (.tuple #[pv 0 0, .int .i64 40]) ∧ Grown w w' := by
  have hW := Grown.refl w
  have hGl := hGl0
  go_enter Tryd.func28, Tryd.ntmps28
  repeat ((fail_if_success (with_reducible show Code.wp _ (Code.region _ _ _) _ _ _)); go_step)
  refine wp_plain [.box 23 (bl (b)), .new 37 64, .imm (.int .i64 (0))] (by kernel_rfl) (fun β => ?_) (fun β w1 hD => ?_)
  · refine Obs.cons (Ob.box rfl rfl (by kernel_rfl)) ?_
    refine Obs.cons (Ob.new _ rfl rfl zeroP (by simp [pcs_length])) ?_
    refine Obs.cons (Ob.imm rfl (fun w => by kernel_rfl)) ?_
    exact Obs.nil
  obtain ⟨hf_b0, hr_b0⟩ := hD.bx 0 _ _ rfl
  replace hf_b0 := Nat.le_trans hW.2.2 hf_b0
  obtain ⟨hf_b1, ht_b1⟩ := hD.nw 1 _ _ rfl
  replace hf_b1 := Nat.le_trans hW.2.2 hf_b1
  replace hW := grown_trans hW hD.gr
  clear hD
  simp only [finAct, putAll, valsFrom, Plan.value, Act.put, List.setIfInBounds_toArray, List.set_cons_zero, List.set_cons_succ]
  replace hGl := hGl0.grown hW
  generalize β 0 = b0 at *
  generalize β (0 + 1) = b1 at *
  repeat ((fail_if_success (with_reducible show Code.wp _ (Code.region _ _ _) _ _ _)); go_step)
  refine wp_plain [.imm (.pointer (some ⟨b0, 31, none⟩)), .val (.int .u8 (top (b) : Nat)), .imm (.int .u8 (0 : Nat)), .imm (.bool false), .imm (.bool false)] (by kernel_rfl) (fun β => ?_) (fun β w2 hD => ?_)
  · refine Obs.cons (Ob.imm rfl (fun w => exec_idx 31 (by decide) rfl (by kernel_rfl) (by kernel_rfl))) ?_
    refine Obs.cons (Ob.load1 (b0) 31 rfl rfl (by kernel_rfl) (block_lt_of_cell (cell_top hr_b0)) (cell_top hr_b0) (fun w h => run_load8 w h)) ?_
    refine Obs.cons (Ob.imm rfl (fun w => exec_and8 (top (b)) (128) (0) rfl (by kernel_rfl) (by kernel_rfl) (and128_lo ⟨top b, top_lt b⟩ ((top_big hb).2 hs)))) ?_
    refine Obs.cons (Ob.imm rfl (fun w => exec_neq8 (0) (0) rfl (by kernel_rfl) (by kernel_rfl) false (rfl))) ?_
    refine Obs.cons (Ob.imm rfl (fun w => by kernel_rfl)) ?_
    exact Obs.nil
  replace hr_b0 := rangeAt_grown hr_b0 hD.gr
  replace ht_b1 := there_grown ht_b1 hD.gr
  replace hW := grown_trans hW hD.gr
  clear hD
  simp only [finAct, putAll, valsFrom, Plan.value, Act.put, List.setIfInBounds_toArray, List.set_cons_zero, List.set_cons_succ]
  replace hGl := hGl0.grown hW
  repeat ((fail_if_success (with_reducible show Code.wp _ (Code.region _ _ _) _ _ _)); go_step)
  refine wp_plain [.val (bv (b)), .new 23 32, .put 1 1 (fun _ => bl (b))] (by kernel_rfl) (fun β => ?_) (fun β w3 hD => ?_)
  · refine Obs.cons (Ob.load (b0) 0 (bl (b)) rfl rfl (by kernel_rfl) hr_b0 Tryd.underlying23 rfl (by rw [bl_length]; exact info32)) ?_
    refine Obs.cons (Ob.new _ rfl rfl zero32.1 (by simp [bl_length])) ?_
    refine Obs.cons (Ob.put 23 rfl rfl rfl (by kernel_rfl) (by kernel_rfl) (by rw [bl_length]; exact info32) (bl_one _)) ?_
    exact Obs.nil
  replace hr_b0 := rangeAt_grown hr_b0 hD.gr
  replace ht_b1 := there_grown ht_b1 hD.gr
  obtain ⟨hf_b2, ht_b2⟩ := hD.nw 1 _ _ rfl
  have hr_b2 : w3.rangeAt (β 1) 0 (bl (b)) := hD.rg 2 1 1 (fun _ => bl (b)) rfl
  replace hf_b2 := Nat.le_trans hW.2.2 hf_b2
  replace hW := grown_trans hW hD.gr
  clear hD
  simp only [finAct, putAll, valsFrom, Plan.value, Act.put, List.setIfInBounds_toArray, List.set_cons_zero, List.set_cons_succ]
  replace hGl := hGl0.grown hW
  generalize β (0 + 1) = b2 at *
  repeat ((fail_if_success (with_reducible show Code.wp _ (Code.region _ _ _) _ _ _)); go_step)
  refine wp_plain_fin [.imm (.pointer (some ⟨b2, 31, none⟩)), .val (.int .u8 (top (b) : Nat)), .imm (.int .u8 (top (b % H) : Nat)), .imm (.pointer (some ⟨b2, 31, none⟩)), .fin] (b2) 31 (fun _ => [.int .u8 (top (b % H) : Nat)]) (by kernel_rfl) (fun β => ?_) (fun β w4 hD => ?_)
  · refine Obs.cons (Ob.imm rfl (fun w => exec_idx 31 (by decide) rfl (by kernel_rfl) (by kernel_rfl))) ?_
    refine Obs.cons (Ob.load1 (b2) 31 rfl rfl (by kernel_rfl) (block_lt_of_cell (cell_top hr_b2)) (cell_top hr_b2) (fun w h => run_load8 w h)) ?_
    refine Obs.cons (Ob.imm rfl (fun w => exec_andNot8 (top (b)) (128) (top (b % H)) rfl (by kernel_rfl) (by kernel_rfl) (by rw [top_low]; exact andNot128 ⟨top b, top_lt b⟩))) ?_
    refine Obs.cons (Ob.imm rfl (fun w => exec_idx 31 (by decide) rfl (by kernel_rfl) (by kernel_rfl))) ?_
    refine Obs.cons (Ob.fin1 (.int .u8 (top (b % H) : Nat)) rfl rfl (there_31 ht_b2) rfl (by kernel_rfl) (by kernel_rfl) (fun w v0 h hf => run_store8 w v0 h hf)) ?_
    exact Obs.nil
  replace hr_b0 := rangeAt_grown hr_b0 hD.gr
  replace hr_b2 := rangeAt_grown hr_b2 hD.gr
  replace ht_b1 := there_grown ht_b1 hD.gr
  replace ht_b2 := there_grown ht_b2 hD.gr
  replace hW := grown_trans hW hD.gr
  clear hD
  simp only [finAct, putAll, valsFrom, Plan.value, Act.put, List.setIfInBounds_toArray, List.set_cons_zero, List.set_cons_succ]
  replace hGl := hGl0.grown hW
  have hs4 : (w4.setCells (b2) 31 [.int .u8 (top (b % H) : Nat)]).rangeAt (b2) 0 (bl (b % H)) := rangeAt_top hr_b2 (low_byte b)
  replace hW := grown_setCells hf_b2 [.int .u8 (top (b % H) : Nat)] 31 hW
  replace ht_b1 := World.there_setCells ht_b1 (b2) 31 [.int .u8 (top (b % H) : Nat)]
  replace ht_b2 := World.there_setCells ht_b2 (b2) 31 [.int .u8 (top (b % H) : Nat)]
  replace hGl := hGl0.grown hW
  generalize w4.setCells (b2) 31 [.int .u8 (top (b % H) : Nat)] = w4s at *
  repeat ((fail_if_success (with_reducible show Code.wp _ (Code.region _ _ _) _ _ _)); go_step)
  refine wp_plain [.val (bv (b % H)), .val (.bool false), .imm (.bool true)] (by kernel_rfl) (fun β => ?_) (fun β w5 hD => ?_)
  · refine Obs.cons (Ob.load (b2) 0 (bl (b % H)) rfl rfl (by kernel_rfl) hs4 Tryd.underlying23 rfl (by rw [bl_length]; exact info32)) ?_
    refine Obs.cons (Ob.call 18 #[bv (b % H)] rfl (fun w => by kernel_rfl) (fun w hg => canon_is (b % H) (low_lt b) false (decide_eq_false hy) w)) ?_
    refine Obs.cons (Ob.imm rfl (fun w => by kernel_rfl)) ?_
    exact Obs.nil
  replace hs4 := rangeAt_grown hs4 hD.gr
  replace ht_b1 := there_grown ht_b1 hD.gr
  replace ht_b2 := there_grown ht_b2 hD.gr
  replace hW := grown_trans hW hD.gr
  clear hD
  simp only [finAct, putAll, valsFrom, Plan.value, Act.put, List.setIfInBounds_toArray, List.set_cons_zero, List.set_cons_succ]
  replace hGl := hGl0.grown hW
  repeat ((fail_if_success (with_reducible show Code.wp _ (Code.region _ _ _) _ _ _)); go_step)
  refine wp_plain_fin [.imm (pv (0) (0)), .fin, .imm (.int .i64 (40))] (b1) 0 (fun _ => pcs (0) (0)) (by kernel_rfl) (fun β => ?_) (fun β w6 hD => ?_)
  · refine Obs.cons (Ob.imm rfl (fun w => exec_build rfl (by kernel_rfl) (build_pt0 w))) ?_
    refine Obs.cons (Ob.fin rfl (by rw [pcs_length]; exact ht_b1) rfl (by kernel_rfl) (by kernel_rfl) (by rw [pcs_length]; exact infoP) (pcs_one _ _)) ?_
    refine Obs.cons (Ob.imm rfl (fun w => by kernel_rfl)) ?_
    exact Obs.nil
  replace hs4 := rangeAt_grown hs4 hD.gr
  replace ht_b1 := there_grown ht_b1 hD.gr
  replace ht_b2 := there_grown ht_b2 hD.gr
  replace hW := grown_trans hW hD.gr
  clear hD
  simp only [finAct, putAll, valsFrom, Plan.value, Act.put, List.setIfInBounds_toArray, List.set_cons_zero, List.set_cons_succ]
  replace hGl := hGl0.grown hW
  have hs6 := World.rangeAt_setCells_same w6 (b1) 0 (pcs (0) (0)) (by rw [pcs_length]; exact ht_b1)
  replace hW := grown_setCells hf_b1 (pcs (0) (0)) 0 hW
  generalize w6.setCells (b1) 0 (pcs (0) (0)) = w6s at *
  repeat go_step
  refine bodyPost_ret (v := .tuple #[pv (0) (0), .int .i64 (40)]) (result_cell_tmp Tryd.results28 _ _ (b1) _ (.int .i64 (40)) ?hp ?hv hs6 Tryd.underlying37 rfl (by rw [pcs_length]; exact infoP)) ?hd ?_
  case hp => rfl
  case hv => rfl
  case hd => rfl
  exact ⟨rfl, hW⟩

set_option maxRecDepth 100000 in
set_option maxHeartbeats 2000000 in
theorem D_none0 (b : Nat) (hb : b < M) (hs :  b < H) (hy : b % H < p) (hr : ¬ rok (uu (b % H)) (vv (b % H))) (w : World) (hGl0 : G3 w) :
    Calls Tryd.prog 28 #[bv b] w fun e w' => e = .returned (.tuple #[pv 0 0, .int .i64 41]) ∧ Grown w w' := by
  have hW := Grown.refl w
  have hGl := hGl0
  go_enter Tryd.func28, Tryd.ntmps28
  repeat ((fail_if_success (with_reducible show Code.wp _ (Code.region _ _ _) _ _ _)); go_step)
  refine wp_plain [.box 23 (bl (b)), .new 37 64, .imm (.int .i64 (0))] (by kernel_rfl) (fun β => ?_) (fun β w1 hD => ?_)
  · refine Obs.cons (Ob.box rfl rfl (by kernel_rfl)) ?_
    refine Obs.cons (Ob.new _ rfl rfl zeroP (by simp [pcs_length])) ?_
    refine Obs.cons (Ob.imm rfl (fun w => by kernel_rfl)) ?_
    exact Obs.nil
  obtain ⟨hf_b0, hr_b0⟩ := hD.bx 0 _ _ rfl
  replace hf_b0 := Nat.le_trans hW.2.2 hf_b0
  obtain ⟨hf_b1, ht_b1⟩ := hD.nw 1 _ _ rfl
  replace hf_b1 := Nat.le_trans hW.2.2 hf_b1
  replace hW := grown_trans hW hD.gr
  clear hD
  simp only [finAct, putAll, valsFrom, Plan.value, Act.put, List.setIfInBounds_toArray, List.set_cons_zero, List.set_cons_succ]
  replace hGl := hGl0.grown hW
  generalize β 0 = b0 at *
  generalize β (0 + 1) = b1 at *
  repeat ((fail_if_success (with_reducible show Code.wp _ (Code.region _ _ _) _ _ _)); go_step)
  refine wp_plain [.imm (.pointer (some ⟨b0, 31, none⟩)), .val (.int .u8 (top (b) : Nat)), .imm (.int .u8 (0 : Nat)), .imm (.bool false), .imm (.bool false)] (by kernel_rfl) (fun β => ?_) (fun β w2 hD => ?_)
  · refine Obs.cons (Ob.imm rfl (fun w => exec_idx 31 (by decide) rfl (by kernel_rfl) (by kernel_rfl))) ?_
    refine Obs.cons (Ob.load1 (b0) 31 rfl rfl (by kernel_rfl) (block_lt_of_cell (cell_top hr_b0)) (cell_top hr_b0) (fun w h => run_load8 w h)) ?_
    refine Obs.cons (Ob.imm rfl (fun w => exec_and8 (top (b)) (128) (0) rfl (by kernel_rfl) (by kernel_rfl) (and128_lo ⟨top b, top_lt b⟩ ((top_big hb).2 hs)))) ?_
    refine Obs.cons (Ob.imm rfl (fun w => exec_neq8 (0) (0) rfl (by kernel_rfl) (by kernel_rfl) false (rfl))) ?_
    refine Obs.cons (Ob.imm rfl (fun w => by kernel_rfl)) ?_
    exact Obs.nil
  replace hr_b0 := rangeAt_grown hr_b0 hD.gr
  replace ht_b1 := there_grown ht_b1 hD.gr
  replace hW := grown_trans hW hD.gr
  clear hD
  simp only [finAct, putAll, valsFrom, Plan.value, Act.put, List.setIfInBounds_toArray, List.set_cons_zero, List.set_cons_succ]
  replace hGl := hGl0.grown hW
  repeat ((fail_if_success (with_reducible show Code.wp _ (Code.region _ _ _) _ _ _)); go_step)
  refine wp_plain [.val (bv (b)), .new 23 32, .put 1 1 (fun _ => bl (b))] (by kernel_rfl) (fun β => ?_) (fun β w3 hD => ?_)
  · refine Obs.cons (Ob.load (b0) 0 (bl (b)) rfl rfl (by kernel_rfl) hr_b0 Tryd.underlying23 rfl (by rw [bl_length]; exact info32)) ?_
    refine Obs.cons (Ob.new _ rfl rfl zero32.1 (by simp [bl_length])) ?_
    refine Obs.cons (Ob.put 23 rfl rfl rfl (by kernel_rfl) (by kernel_rfl) (by rw [bl_length]; exact info32) (bl_one _)) ?_
    exact Obs.nil
  replace hr_b0 := rangeAt_grown hr_b0 hD.gr
  replace ht_b1 := there_grown ht_b1 hD.gr
  obtain ⟨hf_b2, ht_b2⟩ := hD.nw 1 _ _ rfl
  have hr_b2 : w3.rangeAt (β 1) 0 (bl (b)) := hD.rg 2 1 1 (fun _ => bl (b)) rfl
  replace hf_b2 := Nat.le_trans hW.2.2 hf_b2
  replace hW := grown_trans hW hD.gr
  clear hD
  simp only [finAct, putAll, valsFrom, Plan.value, Act.put, List.setIfInBounds_toArray, List.set_cons_zero, List.set_cons_succ]
  replace hGl := hGl0.grown hW
  generalize β (0 + 1) = b2 at *
  repeat ((fail_if_success (with_reducible show Code.wp _ (Code.region _ _ _) _ _ _)); go_step)
  refine wp_plain_fin [.imm (.pointer (some ⟨b2, 31, none⟩)), .val (.int .u8 (top (b) : Nat)), .imm (.int .u8 (top (b % H) : Nat)), .imm (.pointer (some ⟨b2, 31, none⟩)), .fin] (b2) 31 (fun _ => [.int .u8 (top (b % H) : Nat)]) (by kernel_rfl) (fun β => ?_) (fun β w4 hD => ?_)
  · refine Obs.cons (Ob.imm rfl (fun w => exec_idx 31 (by decide) rfl (by kernel_rfl) (by kernel_rfl))) ?_
    refine Obs.cons (Ob.load1 (b2) 31 rfl rfl (by kernel_rfl) (block_lt_of_cell (cell_top hr_b2)) (cell_top hr_b2) (fun w h => run_load8 w h)) ?_
    refine Obs.cons (Ob.imm rfl (fun w => exec_andNot8 (top (b)) (128) (top (b % H)) rfl (by kernel_rfl) (by kernel_rfl) (by rw [top_low]; exact andNot128 ⟨top b, top_lt b⟩))) ?_
    refine Obs.cons (Ob.imm rfl (fun w => exec_idx 31 (by decide) rfl (by kernel_rfl) (by kernel_rfl))) ?_
    refine Obs.cons (Ob.fin1 (.int .u8 (top (b % H) : Nat)) rfl rfl (there_31 ht_b2) rfl (by kernel_rfl) (by kernel_rfl) (fun w v0 h hf => run_store8 w v0 h hf)) ?_
    exact Obs.nil
  replace hr_b0 := rangeAt_grown hr_b0 hD.gr
  replace hr_b2 := rangeAt_grown hr_b2 hD.gr
  replace ht_b1 := there_grown ht_b1 hD.gr
  replace ht_b2 := there_grown ht_b2 hD.gr
  replace hW := grown_trans hW hD.gr
  clear hD
  simp only [finAct, putAll, valsFrom, Plan.value, Act.put, List.setIfInBounds_toArray, List.set_cons_zero, List.set_cons_succ]
  replace hGl := hGl0.grown hW
  have hs4 : (w4.setCells (b2) 31 [.int .u8 (top (b % H) : Nat)]).rangeAt (b2) 0 (bl (b % H)) := rangeAt_top hr_b2 (low_byte b)
  replace hW := grown_setCells hf_b2 [.int .u8 (top (b % H) : Nat)] 31 hW
  replace ht_b1 := World.there_setCells ht_b1 (b2) 31 [.int .u8 (top (b % H) : Nat)]
  replace ht_b2 := World.there_setCells ht_b2 (b2) 31 [.int .u8 (top (b % H) : Nat)]
  replace hGl := hGl0.grown hW
  generalize w4.setCells (b2) 31 [.int .u8 (top (b % H) : Nat)] = w4s at *
  repeat ((fail_if_success (with_reducible show Code.wp _ (Code.region _ _ _) _ _ _)); go_step)
  refine wp_plain [.val (bv (b % H)), .val (.bool true), .imm (.bool false)] (by kernel_rfl) (fun β => ?_) (fun β w5 hD => ?_)
  · refine Obs.cons (Ob.load (b2) 0 (bl (b % H)) rfl rfl (by kernel_rfl) hs4 Tryd.underlying23 rfl (by rw [bl_length]; exact info32)) ?_
    refine Obs.cons (Ob.call 18 #[bv (b % H)] rfl (fun w => by kernel_rfl) (fun w hg => canon_is (b % H) (low_lt b) true (decide_eq_true hy) w)) ?_
    refine Obs.cons (Ob.imm rfl (fun w => by kernel_rfl)) ?_
    exact Obs.nil
  replace hs4 := rangeAt_grown hs4 hD.gr
  replace ht_b1 := there_grown ht_b1 hD.gr
  replace ht_b2 := there_grown ht_b2 hD.gr
  replace hW := grown_trans hW hD.gr
  clear hD
  simp only [finAct, putAll, valsFrom, Plan.value, Act.put, List.setIfInBounds_toArray, List.set_cons_zero, List.set_cons_succ]
  replace hGl := hGl0.grown hW
  repeat ((fail_if_success (with_reducible show Code.wp _ (Code.region _ _ _) _ _ _)); go_step)
  refine wp_plain [.val (bv (b % H)), .val (bv (fmul (b % H) (b % H))), .new 23 32, .put 2 2 (fun _ => bl (fmul (b % H) (b % H)))] (by kernel_rfl) (fun β => ?_) (fun β w6 hD => ?_)
  · refine Obs.cons (Ob.load (b2) 0 (bl (b % H)) rfl rfl (by kernel_rfl) hs4 Tryd.underlying23 rfl (by rw [bl_length]; exact info32)) ?_
    refine Obs.cons (Ob.call 17 #[bv (b % H)] rfl (fun w => by kernel_rfl) (fun w hg => Square_f (b % H) (low_lt b) w)) ?_
    refine Obs.cons (Ob.new _ rfl rfl zero32.1 (by simp [bl_length])) ?_
    refine Obs.cons (Ob.put 23 rfl rfl rfl (by kernel_rfl) (by kernel_rfl) (by rw [bl_length]; exact info32) (bl_one _)) ?_
    exact Obs.nil
  replace hs4 := rangeAt_grown hs4 hD.gr
  replace ht_b1 := there_grown ht_b1 hD.gr
  replace ht_b2 := there_grown ht_b2 hD.gr
  obtain ⟨hf_b3, ht_b3⟩ := hD.nw 2 _ _ rfl
  have hr_b3 : w6.rangeAt (β 2) 0 (bl (fmul (b % H) (b % H))) := hD.rg 3 2 2 (fun _ => bl (fmul (b % H) (b % H))) rfl
  replace hf_b3 := Nat.le_trans hW.2.2 hf_b3
  replace hW := grown_trans hW hD.gr
  clear hD
  simp only [finAct, putAll, valsFrom, Plan.value, Act.put, List.setIfInBounds_toArray, List.set_cons_zero, List.set_cons_succ]
  replace hGl := hGl0.grown hW
  generalize β (0 + 1 + 1) = b3 at *
  repeat ((fail_if_success (with_reducible show Code.wp _ (Code.region _ _ _) _ _ _)); go_step)
  replace hs4 := rangeAt_grown hs4 (gdrew w6)
  replace hr_b3 := rangeAt_grown hr_b3 (gdrew w6)
  replace ht_b1 := there_grown ht_b1 (gdrew w6)
  replace ht_b2 := there_grown ht_b2 (gdrew w6)
  replace ht_b3 := there_grown ht_b3 (gdrew w6)
  replace hW := grown_trans hW (gdrew w6)
  replace hGl := hGl0.grown hW
  refine wp_loose [.val (bv (fmul (b % H) (b % H))), .val (bv (1)), .val (bv (sb (fmul (b % H) (b % H)) (1))), .val (bv (dd)), .val (bv (fmul (b % H) (b % H))), .val (bv (fmul (dd) (fmul (b % H) (b % H)))), .val (bv (1)), .val (bv (fadd (fmul (dd) (fmul (b % H) (b % H))) (1))), .val (.tuple #[bv (0), .bool false]), .imm (.tuple #[bv (0), .bool false]), .imm (bv (0)), .imm (.bool false), .new 23 32, .put 12 12 (fun _ => bl (0)), .imm (.bool false)] (by kernel_rfl) (by kernel_rfl) (fun β => ?_) (fun β w7 hD => ?_)
  · refine Obs.cons (Ob.load (b3) 0 (bl (fmul (b % H) (b % H))) rfl rfl (by kernel_rfl) hr_b3 Tryd.underlying23 rfl (by rw [bl_length]; exact info32)) ?_
    refine Obs.cons (Ob.load (2) 0 (bl (1)) rfl rfl (by kernel_rfl) hGl.g2.pone Tryd.underlying23 rfl (by rw [bl_length]; exact info32)) ?_
    refine Obs.cons (Ob.call 29 #[bv (fmul (b % H) (b % H)), bv (1)] rfl (fun w => by kernel_rfl) (fun w hg => Sub_any (fmul (b % H) (b % H)) (1) (fmul_lt _ _) (by decide) w)) ?_
    refine Obs.cons (Ob.load (3) 0 (bl (dd)) rfl rfl (by kernel_rfl) hGl.g2.pd Tryd.underlying23 rfl (by rw [bl_length]; exact info32)) ?_
    refine Obs.cons (Ob.load (b3) 0 (bl (fmul (b % H) (b % H))) rfl rfl (by kernel_rfl) hr_b3 Tryd.underlying23 rfl (by rw [bl_length]; exact info32)) ?_
    refine Obs.cons (Ob.call 12 #[bv (dd), bv (fmul (b % H) (b % H))] rfl (fun w => by kernel_rfl) (fun w hg => Mul_f (dd) (fmul (b % H) (b % H)) dd_M (fmul_lt _ _) w)) ?_
    refine Obs.cons (Ob.load (2) 0 (bl (1)) rfl rfl (by kernel_rfl) hGl.g2.pone Tryd.underlying23 rfl (by rw [bl_length]; exact info32)) ?_
    refine Obs.cons (Ob.call 19 #[bv (fmul (dd) (fmul (b % H) (b % H))), bv (1)] rfl (fun w => by kernel_rfl) (fun w hg => Add_f (fmul (dd) (fmul (b % H) (b % H))) (1) (fmul_lt _ _) (by decide) w)) ?_
    refine Obs.cons (Ob.call 16 #[bv (sb (fmul (b % H) (b % H)) (1)), bv (fadd (fmul (dd) (fmul (b % H) (b % H))) (1))] rfl (fun w => by kernel_rfl) (fun w hg => SqrtRatio_no (sb (fmul (b % H) (b % H)) (1)) (fadd (fmul (dd) (fmul (b % H) (b % H))) (1)) (fsb_lt _ _) (fadd_lt _ _) hr w (hGl.grown hg).g1)) ?_
    refine Obs.cons (Ob.imm rfl (fun w => by kernel_rfl)) ?_
    refine Obs.cons (Ob.imm rfl (fun w => by kernel_rfl)) ?_
    refine Obs.cons (Ob.imm rfl (fun w => by kernel_rfl)) ?_
    refine Obs.cons (Ob.new _ rfl rfl zero32.1 (by simp [bl_length])) ?_
    refine Obs.cons (Ob.put 23 rfl rfl rfl (by kernel_rfl) (by kernel_rfl) (by rw [bl_length]; exact info32) (bl_one _)) ?_
    refine Obs.cons (Ob.imm rfl (fun w => by kernel_rfl)) ?_
    exact Obs.nil
  replace hs4 := rangeAt_grown hs4 hD.gr
  replace hr_b3 := rangeAt_grown hr_b3 hD.gr
  replace ht_b1 := there_grown ht_b1 hD.gr
  replace ht_b2 := there_grown ht_b2 hD.gr
  replace ht_b3 := there_grown ht_b3 hD.gr
  obtain ⟨hf_b4, ht_b4⟩ := hD.nw 12 _ _ rfl
  have hr_b4 : w7.rangeAt (β 12) 0 (bl (0)) := hD.rg 13 12 12 (fun _ => bl (0)) rfl
  replace hf_b4 := Nat.le_trans hW.2.2 hf_b4
  replace hW := grown_trans hW hD.gr
  clear hD
  simp only [finAct, putAll, valsFrom, Plan.value, Act.put, List.setIfInBounds_toArray, List.set_cons_zero, List.set_cons_succ]
  replace hGl := hGl0.grown hW
  generalize β (0 + 1 + 1 + 1 + 1 + 1 + 1 + 1 + 1 + 1 + 1 + 1 + 1) = b4 at *
  repeat ((fail_if_success (with_reducible show Code.wp _ (Code.region _ _ _) _ _ _)); go_step)
  refine wp_plain [.imm (.bool false), .imm (.bool true), .imm (.bool true)] (by kernel_rfl) (fun β => ?_) (fun β w8 hD => ?_)
  · refine Obs.cons (Ob.imm rfl (fun w => by kernel_rfl)) ?_
    refine Obs.cons (Ob.imm rfl (fun w => by kernel_rfl)) ?_
    refine Obs.cons (Ob.imm rfl (fun w => by kernel_rfl)) ?_
    exact Obs.nil
  replace hs4 := rangeAt_grown hs4 hD.gr
  replace hr_b3 := rangeAt_grown hr_b3 hD.gr
  replace hr_b4 := rangeAt_grown hr_b4 hD.gr
  replace ht_b1 := there_grown ht_b1 hD.gr
  replace ht_b2 := there_grown ht_b2 hD.gr
  replace ht_b3 := there_grown ht_b3 hD.gr
  replace ht_b4 := there_grown ht_b4 hD.gr
  replace hW := grown_trans hW hD.gr
  clear hD
  simp only [finAct, putAll, valsFrom, Plan.value, Act.put, List.setIfInBounds_toArray, List.set_cons_zero, List.set_cons_succ]
  replace hGl := hGl0.grown hW
  repeat ((fail_if_success (with_reducible show Code.wp _ (Code.region _ _ _) _ _ _)); go_step)
  refine wp_plain_fin [.imm (pv (0) (0)), .fin, .imm (.int .i64 (41))] (b1) 0 (fun _ => pcs (0) (0)) (by kernel_rfl) (fun β => ?_) (fun β w9 hD => ?_)
  · refine Obs.cons (Ob.imm rfl (fun w => exec_build rfl (by kernel_rfl) (build_pt0 w))) ?_
    refine Obs.cons (Ob.fin rfl (by rw [pcs_length]; exact ht_b1) rfl (by kernel_rfl) (by kernel_rfl) (by rw [pcs_length]; exact infoP) (pcs_one _ _)) ?_
    refine Obs.cons (Ob.imm rfl (fun w => by kernel_rfl)) ?_
    exact Obs.nil
  replace hs4 := rangeAt_grown hs4 hD.gr
  replace hr_b3 := rangeAt_grown hr_b3 hD.gr
  replace hr_b4 := rangeAt_grown hr_b4 hD.gr
  replace ht_b1 := there_grown ht_b1 hD.gr
  replace ht_b2 := there_grown ht_b2 hD.gr
  replace ht_b3 := there_grown ht_b3 hD.gr
  replace ht_b4 := there_grown ht_b4 hD.gr
  replace hW := grown_trans hW hD.gr
  clear hD
  simp only [finAct, putAll, valsFrom, Plan.value, Act.put, List.setIfInBounds_toArray, List.set_cons_zero, List.set_cons_succ]
  replace hGl := hGl0.grown hW
  have hs9 := World.rangeAt_setCells_same w9 (b1) 0 (pcs (0) (0)) (by rw [pcs_length]; exact ht_b1)
  replace hW := grown_setCells hf_b1 (pcs (0) (0)) 0 hW
  generalize w9.setCells (b1) 0 (pcs (0) (0)) = w9s at *
  repeat go_step
  refine bodyPost_ret (v := .tuple #[pv (0) (0), .int .i64 (41)]) (result_cell_tmp Tryd.results28 _ _ (b1) _ (.int .i64 (41)) ?hp ?hv hs9 Tryd.underlying37 rfl (by rw [pcs_length]; exact infoP)) ?hd ?_
  case hp => rfl
  case hv => rfl
  case hd => rfl
  exact ⟨rfl, hW⟩

set_option maxRecDepth 100000 in
set_option maxHeartbeats 2000000 in
theorem D_high1 (b : Nat) (hb : b < M) (hs : ¬ b < H) (hy : ¬ b % H < p) (w : World) (hGl0 : G3 w) :
    Calls Tryd.prog 28 #[bv b] w fun e w' => e = .returned (.tuple #[pv 0 0, .int .i64 40]) ∧ Grown w w' := by
  have hW := Grown.refl w
  have hGl := hGl0
  go_enter Tryd.func28, Tryd.ntmps28
  repeat ((fail_if_success (with_reducible show Code.wp _ (Code.region _ _ _) _ _ _)); go_step)
  refine wp_plain [.box 23 (bl (b)), .new 37 64, .imm (.int .i64 (0))] (by kernel_rfl) (fun β => ?_) (fun β w1 hD => ?_)
  · refine Obs.cons (Ob.box rfl rfl (by kernel_rfl)) ?_
    refine Obs.cons (Ob.new _ rfl rfl zeroP (by simp [pcs_length])) ?_
    refine Obs.cons (Ob.imm rfl (fun w => by kernel_rfl)) ?_
    exact Obs.nil
  obtain ⟨hf_b0, hr_b0⟩ := hD.bx 0 _ _ rfl
  replace hf_b0 := Nat.le_trans hW.2.2 hf_b0
  obtain ⟨hf_b1, ht_b1⟩ := hD.nw 1 _ _ rfl
  replace hf_b1 := Nat.le_trans hW.2.2 hf_b1
  replace hW := grown_trans hW hD.gr
  clear hD
  simp only [finAct, putAll, valsFrom, Plan.value, Act.put, List.setIfInBounds_toArray, List.set_cons_zero, List.set_cons_succ]
  replace hGl := hGl0.grown hW
  generalize β 0 = b0 at *
  generalize β (0 + 1) = b1 at *
  repeat ((fail_if_success (with_reducible show Code.wp _ (Code.region _ _ _) _ _ _)); go_step)
  refine wp_plain [.imm (.pointer (some ⟨b0, 31, none⟩)), .val (.int .u8 (top (b) : Nat)), .imm (.int .u8 (128 : Nat)), .imm (.bool true), .imm (.bool true)] (by kernel_rfl) (fun β => ?_) (fun β w2 hD => ?_)
  · refine Obs.cons (Ob.imm rfl (fun w => exec_idx 31 (by decide) rfl (by kernel_rfl) (by kernel_rfl))) ?_
    refine Obs.cons (Ob.load1 (b0) 31 rfl rfl (by kernel_rfl) (block_lt_of_cell (cell_top hr_b0)) (cell_top hr_b0) (fun w h => run_load8 w h)) ?_
    refine Obs.cons (Ob.imm rfl (fun w => exec_and8 (top (b)) (128) (128) rfl (by kernel_rfl) (by kernel_rfl) (and128_hi ⟨top b, top_lt b⟩ (not_low hb hs)))) ?_
    refine Obs.cons (Ob.imm rfl (fun w => exec_neq8 (128) (0) rfl (by kernel_rfl) (by kernel_rfl) true (rfl))) ?_
    refine Obs.cons (Ob.imm rfl (fun w => by kernel_rfl)) ?_
    exact Obs.nil
  replace hr_b0 := rangeAt_grown hr_b0 hD.gr
  replace ht_b1 := there_grown ht_b1 hD.gr
  replace hW := grown_trans hW hD.gr
  clear hD
  simp only [finAct, putAll, valsFrom, Plan.value, Act.put, List.setIfInBounds_toArray, List.set_cons_zero, List.set_cons_succ]
  replace hGl := hGl0.grown hW
  repeat ((fail_if_success (with_reducible show Code.wp _ (Code.region _ _ _) _ _ _)); go_step)
  refine wp_plain [.val (bv (b)), .new 23 32, .put 1 1 (fun _ => bl (b))] (by kernel_rfl) (fun β => ?_) (fun β w3 hD => ?_)
  · refine Obs.cons (Ob.load (b0) 0 (bl (b)) rfl rfl (by kernel_rfl) hr_b0 Tryd.underlying23 rfl (by rw [bl_length]; exact info32)) ?_
    refine Obs.cons (Ob.new _ rfl rfl zero32.1 (by simp [bl_length])) ?_
    refine Obs.cons (Ob.put 23 rfl rfl rfl (by kernel_rfl) (by kernel_rfl) (by rw [bl_length]; exact info32) (bl_one _)) ?_
    exact Obs.nil
  replace hr_b0 := rangeAt_grown hr_b0 hD.gr
  replace ht_b1 := there_grown ht_b1 hD.gr
  obtain ⟨hf_b2, ht_b2⟩ := hD.nw 1 _ _ rfl
  have hr_b2 : w3.rangeAt (β 1) 0 (bl (b)) := hD.rg 2 1 1 (fun _ => bl (b)) rfl
  replace hf_b2 := Nat.le_trans hW.2.2 hf_b2
  replace hW := grown_trans hW hD.gr
  clear hD
  simp only [finAct, putAll, valsFrom, Plan.value, Act.put, List.setIfInBounds_toArray, List.set_cons_zero, List.set_cons_succ]
  replace hGl := hGl0.grown hW
  generalize β (0 + 1) = b2 at *
  repeat ((fail_if_success (with_reducible show Code.wp _ (Code.region _ _ _) _ _ _)); go_step)
  refine wp_plain_fin [.imm (.pointer (some ⟨b2, 31, none⟩)), .val (.int .u8 (top (b) : Nat)), .imm (.int .u8 (top (b % H) : Nat)), .imm (.pointer (some ⟨b2, 31, none⟩)), .fin] (b2) 31 (fun _ => [.int .u8 (top (b % H) : Nat)]) (by kernel_rfl) (fun β => ?_) (fun β w4 hD => ?_)
  · refine Obs.cons (Ob.imm rfl (fun w => exec_idx 31 (by decide) rfl (by kernel_rfl) (by kernel_rfl))) ?_
    refine Obs.cons (Ob.load1 (b2) 31 rfl rfl (by kernel_rfl) (block_lt_of_cell (cell_top hr_b2)) (cell_top hr_b2) (fun w h => run_load8 w h)) ?_
    refine Obs.cons (Ob.imm rfl (fun w => exec_andNot8 (top (b)) (128) (top (b % H)) rfl (by kernel_rfl) (by kernel_rfl) (by rw [top_low]; exact andNot128 ⟨top b, top_lt b⟩))) ?_
    refine Obs.cons (Ob.imm rfl (fun w => exec_idx 31 (by decide) rfl (by kernel_rfl) (by kernel_rfl))) ?_
    refine Obs.cons (Ob.fin1 (.int .u8 (top (b % H) : Nat)) rfl rfl (there_31 ht_b2) rfl (by kernel_rfl) (by kernel_rfl) (fun w v0 h hf => run_store8 w v0 h hf)) ?_
    exact Obs.nil
  replace hr_b0 := rangeAt_grown hr_b0 hD.gr
  replace hr_b2 := rangeAt_grown hr_b2 hD.gr
  replace ht_b1 := there_grown ht_b1 hD.gr
  replace ht_b2 := there_grown ht_b2 hD.gr
  replace hW := grown_trans hW hD.gr
  clear hD
  simp only [finAct, putAll, valsFrom, Plan.value, Act.put, List.setIfInBounds_toArray, List.set_cons_zero, List.set_cons_succ]
  replace hGl := hGl0.grown hW
  have hs4 : (w4.setCells (b2) 31 [.int .u8 (top (b % H) : Nat)]).rangeAt (b2) 0 (bl (b % H)) := rangeAt_top hr_b2 (low_byte b)
  replace hW := grown_setCells hf_b2 [.int .u8 (top (b % H) : Nat)] 31 hW
  replace ht_b1 := World.there_setCells ht_b1 (b2) 31 [.int .u8 (top (b % H) : Nat)]
  replace ht_b2 := World.there_setCells ht_b2 (b2) 31 [.int .u8 (top (b % H) : Nat)]
  replace hGl := hGl0.grown hW
  generalize w4.setCells (b2) 31 [.int .u8 (top (b % H) : Nat)] = w4s at *
  repeat ((fail_if_success (with_reducible show Code.wp _ (Code.region _ _ _) _ _ _)); go_step)
  refine wp_plain [.val (bv (b % H)), .val (.bool false), .imm (.bool true)] (by kernel_rfl) (fun β => ?_) (fun β w5 hD => ?_)
  · refine Obs.cons (Ob.load (b2) 0 (bl (b % H)) rfl rfl (by kernel_rfl) hs4 Tryd.underlying23 rfl (by rw [bl_length]; exact info32)) ?_
    refine Obs.cons (Ob.call 18 #[bv (b % H)] rfl (fun w => by kernel_rfl) (fun w hg => canon_is (b % H) (low_lt b) false (decide_eq_false hy) w)) ?_
    refine Obs.cons (Ob.imm rfl (fun w => by kernel_rfl)) ?_
    exact Obs.nil
  replace hs4 := rangeAt_grown hs4 hD.gr
  replace ht_b1 := there_grown ht_b1 hD.gr
  replace ht_b2 := there_grown ht_b2 hD.gr
  replace hW := grown_trans hW hD.gr
  clear hD
  simp only [finAct, putAll, valsFrom, Plan.value, Act.put, List.setIfInBounds_toArray, List.set_cons_zero, List.set_cons_succ]
  replace hGl := hGl0.grown hW
  repeat ((fail_if_success (with_reducible show Code.wp _ (Code.region _ _ _) _ _ _)); go_step)
  refine wp_plain_fin [.imm (pv (0) (0)), .fin, .imm (.int .i64 (40))] (b1) 0 (fun _ => pcs (0) (0)) (by kernel_rfl) (fun β => ?_) (fun β w6 hD => ?_)
  · refine Obs.cons (Ob.imm rfl (fun w => exec_build rfl (by kernel_rfl) (build_pt0 w))) ?_
    refine Obs.cons (Ob.fin rfl (by rw [pcs_length]; exact ht_b1) rfl (by kernel_rfl) (by kernel_rfl) (by rw [pcs_length]; exact infoP) (pcs_one _ _)) ?_
    refine Obs.cons (Ob.imm rfl (fun w => by kernel_rfl)) ?_
    exact Obs.nil
  replace hs4 := rangeAt_grown hs4 hD.gr
  replace ht_b1 := there_grown ht_b1 hD.gr
  replace ht_b2 := there_grown ht_b2 hD.gr
  replace hW := grown_trans hW hD.gr
  clear hD
  simp only [finAct, putAll, valsFrom, Plan.value, Act.put, List.setIfInBounds_toArray, List.set_cons_zero, List.set_cons_succ]
  replace hGl := hGl0.grown hW
  have hs6 := World.rangeAt_setCells_same w6 (b1) 0 (pcs (0) (0)) (by rw [pcs_length]; exact ht_b1)
  replace hW := grown_setCells hf_b1 (pcs (0) (0)) 0 hW
  generalize w6.setCells (b1) 0 (pcs (0) (0)) = w6s at *
  repeat go_step
  refine bodyPost_ret (v := .tuple #[pv (0) (0), .int .i64 (40)]) (result_cell_tmp Tryd.results28 _ _ (b1) _ (.int .i64 (40)) ?hp ?hv hs6 Tryd.underlying37 rfl (by rw [pcs_length]; exact infoP)) ?hd ?_
  case hp => rfl
  case hv => rfl
  case hd => rfl
  exact ⟨rfl, hW⟩

set_option maxRecDepth 100000 in
set_option maxHeartbeats 2000000 in
theorem D_none1 (b : Nat) (hb : b < M) (hs : ¬ b < H) (hy : b % H < p) (hr : ¬ rok (uu (b % H)) (vv (b % H))) (w : World) (hGl0 : G3 w) :
    Calls Tryd.prog 28 #[bv b] w fun e w' => e = .returned (.tuple #[pv 0 0, .int .i64 41]) ∧ Grown w w' := by
  have hW := Grown.refl w
  have hGl := hGl0
  go_enter Tryd.func28, Tryd.ntmps28
  repeat ((fail_if_success (with_reducible show Code.wp _ (Code.region _ _ _) _ _ _)); go_step)
  refine wp_plain [.box 23 (bl (b)), .new 37 64, .imm (.int .i64 (0))] (by kernel_rfl) (fun β => ?_) (fun β w1 hD => ?_)
  · refine Obs.cons (Ob.box rfl rfl (by kernel_rfl)) ?_
    refine Obs.cons (Ob.new _ rfl rfl zeroP (by simp [pcs_length])) ?_
    refine Obs.cons (Ob.imm rfl (fun w => by kernel_rfl)) ?_
    exact Obs.nil
  obtain ⟨hf_b0, hr_b0⟩ := hD.bx 0 _ _ rfl
  replace hf_b0 := Nat.le_trans hW.2.2 hf_b0
  obtain ⟨hf_b1, ht_b1⟩ := hD.nw 1 _ _ rfl
  replace hf_b1 := Nat.le_trans hW.2.2 hf_b1
  replace hW := grown_trans hW hD.gr
  clear hD
  simp only [finAct, putAll, valsFrom, Plan.value, Act.put, List.setIfInBounds_toArray, List.set_cons_zero, List.set_cons_succ]
  replace hGl := hGl0.grown hW
  generalize β 0 = b0 at *
  generalize β (0 + 1) = b1 at *
  repeat ((fail_if_success (with_reducible show Code.wp _ (Code.region _ _ _) _ _ _)); go_step)
  refine wp_plain [.imm (.pointer (some ⟨b0, 31, none⟩)), .val (.int .u8 (top (b) : Nat)), .imm (.int .u8 (128 : Nat)), .imm (.bool true), .imm (.bool true)] (by kernel_rfl) (fun β => ?_) (fun β w2 hD => ?_)
  · refine Obs.cons (Ob.imm rfl (fun w => exec_idx 31 (by decide) rfl (by kernel_rfl) (by kernel_rfl))) ?_
    refine Obs.cons (Ob.load1 (b0) 31 rfl rfl (by kernel_rfl) (block_lt_of_cell (cell_top hr_b0)) (cell_top hr_b0) (fun w h => run_load8 w h)) ?_
    refine Obs.cons (Ob.imm rfl (fun w => exec_and8 (top (b)) (128) (128) rfl (by kernel_rfl) (by kernel_rfl) (and128_hi ⟨top b, top_lt b⟩ (not_low hb hs)))) ?_
    refine Obs.cons (Ob.imm rfl (fun w => exec_neq8 (128) (0) rfl (by kernel_rfl) (by kernel_rfl) true (rfl))) ?_
    refine Obs.cons (Ob.imm rfl (fun w => by kernel_rfl)) ?_
    exact Obs.nil
  replace hr_b0 := rangeAt_grown hr_b0 hD.gr
  replace ht_b1 := there_grown ht_b1 hD.gr
  replace hW := grown_trans hW hD.gr
  clear hD
  simp only [finAct, putAll, valsFrom, Plan.value, Act.put, List.setIfInBounds_toArray, List.set_cons_zero, List.set_cons_succ]
  replace hGl := hGl0.grown hW
  repeat ((fail_if_success (with_reducible show Code.wp _ (Code.region _ _ _) _ _ _)); go_step)
  refine wp_plain [.val (bv (b)), .new 23 32, .put 1 1 (fun _ => bl (b))] (by kernel_rfl) (fun β => ?_) (fun β w3 hD => ?_)
  · refine Obs.cons (Ob.load (b0) 0 (bl (b)) rfl rfl (by kernel_rfl) hr_b0 Tryd.underlying23 rfl (by rw [bl_length]; exact info32)) ?_
    refine Obs.cons (Ob.new _ rfl rfl zero32.1 (by simp [bl_length])) ?_
    refine Obs.cons (Ob.put 23 rfl rfl rfl (by kernel_rfl) (by kernel_rfl) (by rw [bl_length]; exact info32) (bl_one _)) ?_
    exact Obs.nil
  replace hr_b0 := rangeAt_grown hr_b0 hD.gr
  replace ht_b1 := there_grown ht_b1 hD.gr
  obtain ⟨hf_b2, ht_b2⟩ := hD.nw 1 _ _ rfl
  have hr_b2 : w3.rangeAt (β 1) 0 (bl (b)) := hD.rg 2 1 1 (fun _ => bl (b)) rfl
  replace hf_b2 := Nat.le_trans hW.2.2 hf_b2
  replace hW := grown_trans hW hD.gr
  clear hD
  simp only [finAct, putAll, valsFrom, Plan.value, Act.put, List.setIfInBounds_toArray, List.set_cons_zero, List.set_cons_succ]
  replace hGl := hGl0.grown hW
  generalize β (0 + 1) = b2 at *
  repeat ((fail_if_success (with_reducible show Code.wp _ (Code.region _ _ _) _ _ _)); go_step)
  refine wp_plain_fin [.imm (.pointer (some ⟨b2, 31, none⟩)), .val (.int .u8 (top (b) : Nat)), .imm (.int .u8 (top (b % H) : Nat)), .imm (.pointer (some ⟨b2, 31, none⟩)), .fin] (b2) 31 (fun _ => [.int .u8 (top (b % H) : Nat)]) (by kernel_rfl) (fun β => ?_) (fun β w4 hD => ?_)
  · refine Obs.cons (Ob.imm rfl (fun w => exec_idx 31 (by decide) rfl (by kernel_rfl) (by kernel_rfl))) ?_
    refine Obs.cons (Ob.load1 (b2) 31 rfl rfl (by kernel_rfl) (block_lt_of_cell (cell_top hr_b2)) (cell_top hr_b2) (fun w h => run_load8 w h)) ?_
    refine Obs.cons (Ob.imm rfl (fun w => exec_andNot8 (top (b)) (128) (top (b % H)) rfl (by kernel_rfl) (by kernel_rfl) (by rw [top_low]; exact andNot128 ⟨top b, top_lt b⟩))) ?_
    refine Obs.cons (Ob.imm rfl (fun w => exec_idx 31 (by decide) rfl (by kernel_rfl) (by kernel_rfl))) ?_
    refine Obs.cons (Ob.fin1 (.int .u8 (top (b % H) : Nat)) rfl rfl (there_31 ht_b2) rfl (by kernel_rfl) (by kernel_rfl) (fun w v0 h hf => run_store8 w v0 h hf)) ?_
    exact Obs.nil
  replace hr_b0 := rangeAt_grown hr_b0 hD.gr
  replace hr_b2 := rangeAt_grown hr_b2 hD.gr
  replace ht_b1 := there_grown ht_b1 hD.gr
  replace ht_b2 := there_grown ht_b2 hD.gr
  replace hW := grown_trans hW hD.gr
  clear hD
  simp only [finAct, putAll, valsFrom, Plan.value, Act.put, List.setIfInBounds_toArray, List.set_cons_zero, List.set_cons_succ]
  replace hGl := hGl0.grown hW
  have hs4 : (w4.setCells (b2) 31 [.int .u8 (top (b % H) : Nat)]).rangeAt (b2) 0 (bl (b % H)) := rangeAt_top hr_b2 (low_byte b)
  replace hW := grown_setCells hf_b2 [.int .u8 (top (b % H) : Nat)] 31 hW
  replace ht_b1 := World.there_setCells ht_b1 (b2) 31 [.int .u8 (top (b % H) : Nat)]
  replace ht_b2 := World.there_setCells ht_b2 (b2) 31 [.int .u8 (top (b % H) : Nat)]
  replace hGl := hGl0.grown hW
  generalize w4.setCells (b2) 31 [.int .u8 (top (b % H) : Nat)] = w4s at *
  repeat ((fail_if_success (with_reducible show Code.wp _ (Code.region _ _ _) _ _ _)); go_step)
  refine wp_plain [.val (bv (b % H)), .val (.bool true), .imm (.bool false)] (by kernel_rfl) (fun β => ?_) (fun β w5 hD => ?_)
  · refine Obs.cons (Ob.load (b2) 0 (bl (b % H)) rfl rfl (by kernel_rfl) hs4 Tryd.underlying23 rfl (by rw [bl_length]; exact info32)) ?_
    refine Obs.cons (Ob.call 18 #[bv (b % H)] rfl (fun w => by kernel_rfl) (fun w hg => canon_is (b % H) (low_lt b) true (decide_eq_true hy) w)) ?_
    refine Obs.cons (Ob.imm rfl (fun w => by kernel_rfl)) ?_
    exact Obs.nil
  replace hs4 := rangeAt_grown hs4 hD.gr
  replace ht_b1 := there_grown ht_b1 hD.gr
  replace ht_b2 := there_grown ht_b2 hD.gr
  replace hW := grown_trans hW hD.gr
  clear hD
  simp only [finAct, putAll, valsFrom, Plan.value, Act.put, List.setIfInBounds_toArray, List.set_cons_zero, List.set_cons_succ]
  replace hGl := hGl0.grown hW
  repeat ((fail_if_success (with_reducible show Code.wp _ (Code.region _ _ _) _ _ _)); go_step)
  refine wp_plain [.val (bv (b % H)), .val (bv (fmul (b % H) (b % H))), .new 23 32, .put 2 2 (fun _ => bl (fmul (b % H) (b % H)))] (by kernel_rfl) (fun β => ?_) (fun β w6 hD => ?_)
  · refine Obs.cons (Ob.load (b2) 0 (bl (b % H)) rfl rfl (by kernel_rfl) hs4 Tryd.underlying23 rfl (by rw [bl_length]; exact info32)) ?_
    refine Obs.cons (Ob.call 17 #[bv (b % H)] rfl (fun w => by kernel_rfl) (fun w hg => Square_f (b % H) (low_lt b) w)) ?_
    refine Obs.cons (Ob.new _ rfl rfl zero32.1 (by simp [bl_length])) ?_
    refine Obs.cons (Ob.put 23 rfl rfl rfl (by kernel_rfl) (by kernel_rfl) (by rw [bl_length]; exact info32) (bl_one _)) ?_
    exact Obs.nil
  replace hs4 := rangeAt_grown hs4 hD.gr
  replace ht_b1 := there_grown ht_b1 hD.gr
  replace ht_b2 := there_grown ht_b2 hD.gr
  obtain ⟨hf_b3, ht_b3⟩ := hD.nw 2 _ _ rfl
  have hr_b3 : w6.rangeAt (β 2) 0 (bl (fmul (b % H) (b % H))) := hD.rg 3 2 2 (fun _ => bl (fmul (b % H) (b % H))) rfl
  replace hf_b3 := Nat.le_trans hW.2.2 hf_b3
  replace hW := grown_trans hW hD.gr
  clear hD
  simp only [finAct, putAll, valsFrom, Plan.value, Act.put, List.setIfInBounds_toArray, List.set_cons_zero, List.set_cons_succ]
  replace hGl := hGl0.grown hW
  generalize β (0 + 1 + 1) = b3 at *
  repeat ((fail_if_success (with_reducible show Code.wp _ (Code.region _ _ _) _ _ _)); go_step)
  replace hs4 := rangeAt_grown hs4 (gdrew w6)
  replace hr_b3 := rangeAt_grown hr_b3 (gdrew w6)
  replace ht_b1 := there_grown ht_b1 (gdrew w6)
  replace ht_b2 := there_grown ht_b2 (gdrew w6)
  replace ht_b3 := there_grown ht_b3 (gdrew w6)
  replace hW := grown_trans hW (gdrew w6)
  replace hGl := hGl0.grown hW
  refine wp_loose [.val (bv (fmul (b % H) (b % H))), .val (bv (1)), .val (bv (sb (fmul (b % H) (b % H)) (1))), .val (bv (dd)), .val (bv (fmul (b % H) (b % H))), .val (bv (fmul (dd) (fmul (b % H) (b % H)))), .val (bv (1)), .val (bv (fadd (fmul (dd) (fmul (b % H) (b % H))) (1))), .val (.tuple #[bv (0), .bool false]), .imm (.tuple #[bv (0), .bool false]), .imm (bv (0)), .imm (.bool false), .new 23 32, .put 12 12 (fun _ => bl (0)), .imm (.bool false)] (by kernel_rfl) (by kernel_rfl) (fun β => ?_) (fun β w7 hD => ?_)
  · refine Obs.cons (Ob.load (b3) 0 (bl (fmul (b % H) (b % H))) rfl rfl (by kernel_rfl) hr_b3 Tryd.underlying23 rfl (by rw [bl_length]; exact info32)) ?_
    refine Obs.cons (Ob.load (2) 0 (bl (1)) rfl rfl (by kernel_rfl) hGl.g2.pone Tryd.underlying23 rfl (by rw [bl_length]; exact info32)) ?_
    refine Obs.cons (Ob.call 29 #[bv (fmul (b % H) (b % H)), bv (1)] rfl (fun w => by kernel_rfl) (fun w hg => Sub_any (fmul (b % H) (b % H)) (1) (fmul_lt _ _) (by decide) w)) ?_
    refine Obs.cons (Ob.load (3) 0 (bl (dd)) rfl rfl (by kernel_rfl) hGl.g2.pd Tryd.underlying23 rfl (by rw [bl_length]; exact info32)) ?_
    refine Obs.cons (Ob.load (b3) 0 (bl (fmul (b % H) (b % H))) rfl rfl (by kernel_rfl) hr_b3 Tryd.underlying23 rfl (by rw [bl_length]; exact info32)) ?_
    refine Obs.cons (Ob.call 12 #[bv (dd), bv (fmul (b % H) (b % H))] rfl (fun w => by kernel_rfl) (fun w hg => Mul_f (dd) (fmul (b % H) (b % H)) dd_M (fmul_lt _ _) w)) ?_
    refine Obs.cons (Ob.load (2) 0 (bl (1)) rfl rfl (by kernel_rfl) hGl.g2.pone Tryd.underlying23 rfl (by rw [bl_length]; exact info32)) ?_
    refine Obs.cons (Ob.call 19 #[bv (fmul (dd) (fmul (b % H) (b % H))), bv (1)] rfl (fun w => by kernel_rfl) (fun w hg => Add_f (fmul (dd) (fmul (b % H) (b % H))) (1) (fmul_lt _ _) (by decide) w)) ?_
    refine Obs.cons (Ob.call 16 #[bv (sb (fmul (b % H) (b % H)) (1)), bv (fadd (fmul (dd) (fmul (b % H) (b % H))) (1))] rfl (fun w => by kernel_rfl) (fun w hg => SqrtRatio_no (sb (fmul (b % H) (b % H)) (1)) (fadd (fmul (dd) (fmul (b % H) (b % H))) (1)) (fsb_lt _ _) (fadd_lt _ _) hr w (hGl.grown hg).g1)) ?_
    refine Obs.cons (Ob.imm rfl (fun w => by kernel_rfl)) ?_
    refine Obs.cons (Ob.imm rfl (fun w => by kernel_rfl)) ?_
    refine Obs.cons (Ob.imm rfl (fun w => by kernel_rfl)) ?_
    refine Obs.cons (Ob.new _ rfl rfl zero32.1 (by simp [bl_length])) ?_
    refine Obs.cons (Ob.put 23 rfl rfl rfl (by kernel_rfl) (by kernel_rfl) (by rw [bl_length]; exact info32) (bl_one _)) ?_
    refine Obs.cons (Ob.imm rfl (fun w => by kernel_rfl)) ?_
    exact Obs.nil
  replace hs4 := rangeAt_grown hs4 hD.gr
  replace hr_b3 := rangeAt_grown hr_b3 hD.gr
  replace ht_b1 := there_grown ht_b1 hD.gr
  replace ht_b2 := there_grown ht_b2 hD.gr
  replace ht_b3 := there_grown ht_b3 hD.gr
  obtain ⟨hf_b4, ht_b4⟩ := hD.nw 12 _ _ rfl
  have hr_b4 : w7.rangeAt (β 12) 0 (bl (0)) := hD.rg 13 12 12 (fun _ => bl (0)) rfl
  replace hf_b4 := Nat.le_trans hW.2.2 hf_b4
  replace hW := grown_trans hW hD.gr
  clear hD
  simp only [finAct, putAll, valsFrom, Plan.value, Act.put, List.setIfInBounds_toArray, List.set_cons_zero, List.set_cons_succ]
  replace hGl := hGl0.grown hW
  generalize β (0 + 1 + 1 + 1 + 1 + 1 + 1 + 1 + 1 + 1 + 1 + 1 + 1) = b4 at *
  repeat ((fail_if_success (with_reducible show Code.wp _ (Code.region _ _ _) _ _ _)); go_step)
  refine wp_plain [.imm (.bool false), .imm (.bool true), .imm (.bool true)] (by kernel_rfl) (fun β => ?_) (fun β w8 hD => ?_)
  · refine Obs.cons (Ob.imm rfl (fun w => by kernel_rfl)) ?_
    refine Obs.cons (Ob.imm rfl (fun w => by kernel_rfl)) ?_
    refine Obs.cons (Ob.imm rfl (fun w => by kernel_rfl)) ?_
    exact Obs.nil
  replace hs4 := rangeAt_grown hs4 hD.gr
  replace hr_b3 := rangeAt_grown hr_b3 hD.gr
  replace hr_b4 := rangeAt_grown hr_b4 hD.gr
  replace ht_b1 := there_grown ht_b1 hD.gr
  replace ht_b2 := there_grown ht_b2 hD.gr
  replace ht_b3 := there_grown ht_b3 hD.gr
  replace ht_b4 := there_grown ht_b4 hD.gr
  replace hW := grown_trans hW hD.gr
  clear hD
  simp only [finAct, putAll, valsFrom, Plan.value, Act.put, List.setIfInBounds_toArray, List.set_cons_zero, List.set_cons_succ]
  replace hGl := hGl0.grown hW
  repeat ((fail_if_success (with_reducible show Code.wp _ (Code.region _ _ _) _ _ _)); go_step)
  refine wp_plain_fin [.imm (pv (0) (0)), .fin, .imm (.int .i64 (41))] (b1) 0 (fun _ => pcs (0) (0)) (by kernel_rfl) (fun β => ?_) (fun β w9 hD => ?_)
  · refine Obs.cons (Ob.imm rfl (fun w => exec_build rfl (by kernel_rfl) (build_pt0 w))) ?_
    refine Obs.cons (Ob.fin rfl (by rw [pcs_length]; exact ht_b1) rfl (by kernel_rfl) (by kernel_rfl) (by rw [pcs_length]; exact infoP) (pcs_one _ _)) ?_
    refine Obs.cons (Ob.imm rfl (fun w => by kernel_rfl)) ?_
    exact Obs.nil
  replace hs4 := rangeAt_grown hs4 hD.gr
  replace hr_b3 := rangeAt_grown hr_b3 hD.gr
  replace hr_b4 := rangeAt_grown hr_b4 hD.gr
  replace ht_b1 := there_grown ht_b1 hD.gr
  replace ht_b2 := there_grown ht_b2 hD.gr
  replace ht_b3 := there_grown ht_b3 hD.gr
  replace ht_b4 := there_grown ht_b4 hD.gr
  replace hW := grown_trans hW hD.gr
  clear hD
  simp only [finAct, putAll, valsFrom, Plan.value, Act.put, List.setIfInBounds_toArray, List.set_cons_zero, List.set_cons_succ]
  replace hGl := hGl0.grown hW
  have hs9 := World.rangeAt_setCells_same w9 (b1) 0 (pcs (0) (0)) (by rw [pcs_length]; exact ht_b1)
  replace hW := grown_setCells hf_b1 (pcs (0) (0)) 0 hW
  generalize w9.setCells (b1) 0 (pcs (0) (0)) = w9s at *
  repeat go_step
  refine bodyPost_ret (v := .tuple #[pv (0) (0), .int .i64 (41)]) (result_cell_tmp Tryd.results28 _ _ (b1) _ (.int .i64 (41)) ?hp ?hv hs9 Tryd.underlying37 rfl (by rw [pcs_length]; exact infoP)) ?hd ?_
  case hp => rfl
  case hv => rfl
  case hd => rfl
  exact ⟨rfl, hW⟩

set_option maxRecDepth 100000 in
set_option maxHeartbeats 2000000 in
theorem D_sign (b : Nat) (hb : b < M) (hs : ¬ b < H) (hy : b % H < p) (hr : rok (uu (b % H)) (vv (b % H))) (h0 : rt (uu (b % H)) (vv (b % H)) = 0) (w : World) (hGl0 : G3 w) :
    Calls Tryd.prog 28 #[bv b] w fun e w' => e = .returned (.tuple #[pv 0 0, .int .i64 42]) ∧ Grown w w' := by
  have hW := Grown.refl w
  have hGl := hGl0
  go_enter Tryd.func28, Tryd.ntmps28
  repeat ((fail_if_success (with_reducible show Code.wp _ (Code.region _ _ _) _ _ _)); go_step)
  refine wp_plain [.box 23 (bl (b)), .new 37 64, .imm (.int .i64 (0))] (by kernel_rfl) (fun β => ?_) (fun β w1 hD => ?_)
  · refine Obs.cons (Ob.box rfl rfl (by kernel_rfl)) ?_
    refine Obs.cons (Ob.new _ rfl rfl zeroP (by simp [pcs_length])) ?_
    refine Obs.cons (Ob.imm rfl (fun w => by kernel_rfl)) ?_
    exact Obs.nil
  obtain ⟨hf_b0, hr_b0⟩ := hD.bx 0 _ _ rfl
  replace hf_b0 := Nat.le_trans hW.2.2 hf_b0
  obtain ⟨hf_b1, ht_b1⟩ := hD.nw 1 _ _ rfl
  replace hf_b1 := Nat.le_trans hW.2.2 hf_b1
  replace hW := grown_trans hW hD.gr
  clear hD
  simp only [finAct, putAll, valsFrom, Plan.value, Act.put, List.setIfInBounds_toArray, List.set_cons_zero, List.set_cons_succ]
  replace hGl := hGl0.grown hW
  generalize β 0 = b0 at *
  generalize β (0 + 1) = b1 at *
  repeat ((fail_if_success (with_reducible show Code.wp _ (Code.region _ _ _) _ _ _)); go_step)
  refine wp_plain [.imm (.pointer (some ⟨b0, 31, none⟩)), .val (.int .u8 (top (b) : Nat)), .imm (.int .u8 (128 : Nat)), .imm (.bool true), .imm (.bool true)] (by kernel_rfl) (fun β => ?_) (fun β w2 hD => ?_)
  · refine Obs.cons (Ob.imm rfl (fun w => exec_idx 31 (by decide) rfl (by kernel_rfl) (by kernel_rfl))) ?_
    refine Obs.cons (Ob.load1 (b0) 31 rfl rfl (by kernel_rfl) (block_lt_of_cell (cell_top hr_b0)) (cell_top hr_b0) (fun w h => run_load8 w h)) ?_
    refine Obs.cons (Ob.imm rfl (fun w => exec_and8 (top (b)) (128) (128) rfl (by kernel_rfl) (by kernel_rfl) (and128_hi ⟨top b, top_lt b⟩ (not_low hb hs)))) ?_
    refine Obs.cons (Ob.imm rfl (fun w => exec_neq8 (128) (0) rfl (by kernel_rfl) (by kernel_rfl) true (rfl))) ?_
    refine Obs.cons (Ob.imm rfl (fun w => by kernel_rfl)) ?_
    exact Obs.nil
  replace hr_b0 := rangeAt_grown hr_b0 hD.gr
  replace ht_b1 := there_grown ht_b1 hD.gr
  replace hW := grown_trans hW hD.gr
  clear hD
  simp only [finAct, putAll, valsFrom, Plan.value, Act.put, List.setIfInBounds_toArray, List.set_cons_zero, List.set_cons_succ]
  replace hGl := hGl0.grown hW
  repeat ((fail_if_success (with_reducible show Code.wp _ (Code.region _ _ _) _ _ _)); go_step)
  refine wp_plain [.val (bv (b)), .new 23 32, .put 1 1 (fun _ => bl (b))] (by kernel_rfl) (fun β => ?_) (fun β w3 hD => ?_)
  · refine Obs.cons (Ob.load (b0) 0 (bl (b)) rfl rfl (by kernel_rfl) hr_b0 Tryd.underlying23 rfl (by rw [bl_length]; exact info32)) ?_
    refine Obs.cons (Ob.new _ rfl rfl zero32.1 (by simp [bl_length])) ?_
    refine Obs.cons (Ob.put 23 rfl rfl rfl (by kernel_rfl) (by kernel_rfl) (by rw [bl_length]; exact info32) (bl_one _)) ?_
    exact Obs.nil
  replace hr_b0 := rangeAt_grown hr_b0 hD.gr
  replace ht_b1 := there_grown ht_b1 hD.gr
  obtain ⟨hf_b2, ht_b2⟩ := hD.nw 1 _ _ rfl
  have hr_b2 : w3.rangeAt (β 1) 0 (bl (b)) := hD.rg 2 1 1 (fun _ => bl (b)) rfl
  replace hf_b2 := Nat.le_trans hW.2.2 hf_b2
  replace hW := grown_trans hW hD.gr
  clear hD
  simp only [finAct, putAll, valsFrom, Plan.value, Act.put, List.setIfInBounds_toArray, List.set_cons_zero, List.set_cons_succ]
  replace hGl := hGl0.grown hW
  generalize β (0 + 1) = b2 at *
  repeat ((fail_if_success (with_reducible show Code.wp _ (Code.region _ _ _) _ _ _)); go_step)
  refine wp_plain_fin [.imm (.pointer (some ⟨b2, 31, none⟩)), .val (.int .u8 (top (b) : Nat)), .imm (.int .u8 (top (b % H) : Nat)), .imm (.pointer (some ⟨b2, 31, none⟩)), .fin] (b2) 31 (fun _ => [.int .u8 (top (b % H) : Nat)]) (by kernel_rfl) (fun β => ?_) (fun β w4 hD => ?_)
  · refine Obs.cons (Ob.imm rfl (fun w => exec_idx 31 (by decide) rfl (by kernel_rfl) (by kernel_rfl))) ?_
    refine Obs.cons (Ob.load1 (b2) 31 rfl rfl (by kernel_rfl) (block_lt_of_cell (cell_top hr_b2)) (cell_top hr_b2) (fun w h => run_load8 w h)) ?_
    refine Obs.cons (Ob.imm rfl (fun w => exec_andNot8 (top (b)) (128) (top (b % H)) rfl (by kernel_rfl) (by kernel_rfl) (by rw [top_low]; exact andNot128 ⟨top b, top_lt b⟩))) ?_
    refine Obs.cons (Ob.imm rfl (fun w => exec_idx 31 (by decide) rfl (by kernel_rfl) (by kernel_rfl))) ?_
    refine Obs.cons (Ob.fin1 (.int .u8 (top (b % H) : Nat)) rfl rfl (there_31 ht_b2) rfl (by kernel_rfl) (by kernel_rfl) (fun w v0 h hf => run_store8 w v0 h hf)) ?_
    exact Obs.nil
  replace hr_b0 := rangeAt_grown hr_b0 hD.gr
  replace hr_b2 := rangeAt_grown hr_b2 hD.gr
  replace ht_b1 := there_grown ht_b1 hD.gr
  replace ht_b2 := there_grown ht_b2 hD.gr
  replace hW := grown_trans hW hD.gr
  clear hD
  simp only [finAct, putAll, valsFrom, Plan.value, Act.put, List.setIfInBounds_toArray, List.set_cons_zero, List.set_cons_succ]
  replace hGl := hGl0.grown hW
  have hs4 : (w4.setCells (b2) 31 [.int .u8 (top (b % H) : Nat)]).rangeAt (b2) 0 (bl (b % H)) := rangeAt_top hr_b2 (low_byte b)
  replace hW := grown_setCells hf_b2 [.int .u8 (top (b % H) : Nat)] 31 hW
  replace ht_b1 := World.there_setCells ht_b1 (b2) 31 [.int .u8 (top (b % H) : Nat)]
  replace ht_b2 := World.there_setCells ht_b2 (b2) 31 [.int .u8 (top (b % H) : Nat)]
  replace hGl := hGl0.grown hW
  generalize w4.setCells (b2) 31 [.int .u8 (top (b % H) : Nat)] = w4s at *
  repeat ((fail_if_success (with_reducible show Code.wp _ (Code.region _ _ _) _ _ _)); go_step)
  refine wp_plain [.val (bv (b % H)), .val (.bool true), .imm (.bool false)] (by kernel_rfl) (fun β => ?_) (fun β w5 hD => ?_)
  · refine Obs.cons (Ob.load (b2) 0 (bl (b % H)) rfl rfl (by kernel_rfl) hs4 Tryd.underlying23 rfl (by rw [bl_length]; exact info32)) ?_
    refine Obs.cons (Ob.call 18 #[bv (b % H)] rfl (fun w => by kernel_rfl) (fun w hg => canon_is (b % H) (low_lt b) true (decide_eq_true hy) w)) ?_
    refine Obs.cons (Ob.imm rfl (fun w => by kernel_rfl)) ?_
    exact Obs.nil
  replace hs4 := rangeAt_grown hs4 hD.gr
  replace ht_b1 := there_grown ht_b1 hD.gr
  replace ht_b2 := there_grown ht_b2 hD.gr
  replace hW := grown_trans hW hD.gr
  clear hD
  simp only [finAct, putAll, valsFrom, Plan.value, Act.put, List.setIfInBounds_toArray, List.set_cons_zero, List.set_cons_succ]
  replace hGl := hGl0.grown hW
  repeat ((fail_if_success (with_reducible show Code.wp _ (Code.region _ _ _) _ _ _)); go_step)
  refine wp_plain [.val (bv (b % H)), .val (bv (fmul (b % H) (b % H))), .new 23 32, .put 2 2 (fun _ => bl (fmul (b % H) (b % H)))] (by kernel_rfl) (fun β => ?_) (fun β w6 hD => ?_)
  · refine Obs.cons (Ob.load (b2) 0 (bl (b % H)) rfl rfl (by kernel_rfl) hs4 Tryd.underlying23 rfl (by rw [bl_length]; exact info32)) ?_
    refine Obs.cons (Ob.call 17 #[bv (b % H)] rfl (fun w => by kernel_rfl) (fun w hg => Square_f (b % H) (low_lt b) w)) ?_
    refine Obs.cons (Ob.new _ rfl rfl zero32.1 (by simp [bl_length])) ?_
    refine Obs.cons (Ob.put 23 rfl rfl rfl (by kernel_rfl) (by kernel_rfl) (by rw [bl_length]; exact info32) (bl_one _)) ?_
    exact Obs.nil
  replace hs4 := rangeAt_grown hs4 hD.gr
  replace ht_b1 := there_grown ht_b1 hD.gr
  replace ht_b2 := there_grown ht_b2 hD.gr
  obtain ⟨hf_b3, ht_b3⟩ := hD.nw 2 _ _ rfl
  have hr_b3 : w6.rangeAt (β 2) 0 (bl (fmul (b % H) (b % H))) := hD.rg 3 2 2 (fun _ => bl (fmul (b % H) (b % H))) rfl
  replace hf_b3 := Nat.le_trans hW.2.2 hf_b3
  replace hW := grown_trans hW hD.gr
  clear hD
  simp only [finAct, putAll, valsFrom, Plan.value, Act.put, List.setIfInBounds_toArray, List.set_cons_zero, List.set_cons_succ]
  replace hGl := hGl0.grown hW
  generalize β (0 + 1 + 1) = b3 at *
  repeat ((fail_if_success (with_reducible show Code.wp _ (Code.region _ _ _) _ _ _)); go_step)
  replace hs4 := rangeAt_grown hs4 (gdrew w6)
  replace hr_b3 := rangeAt_grown hr_b3 (gdrew w6)
  replace ht_b1 := there_grown ht_b1 (gdrew w6)
  replace ht_b2 := there_grown ht_b2 (gdrew w6)
  replace ht_b3 := there_grown ht_b3 (gdrew w6)
  replace hW := grown_trans hW (gdrew w6)
  replace hGl := hGl0.grown hW
  refine wp_loose [.val (bv (fmul (b % H) (b % H))), .val (bv (1)), .val (bv (sb (fmul (b % H) (b % H)) (1))), .val (bv (dd)), .val (bv (fmul (b % H) (b % H))), .val (bv (fmul (dd) (fmul (b % H) (b % H)))), .val (bv (1)), .val (bv (fadd (fmul (dd) (fmul (b % H) (b % H))) (1))), .val (.tuple #[bv (rt (uu (b % H)) (vv (b % H))), .bool true]), .imm (.tuple #[bv (rt (uu (b % H)) (vv (b % H))), .bool true]), .imm (bv (rt (uu (b % H)) (vv (b % H)))), .imm (.bool true), .new 23 32, .put 12 12 (fun _ => bl (rt (uu (b % H)) (vv (b % H)))), .imm (.bool true)] (by kernel_rfl) (by kernel_rfl) (fun β => ?_) (fun β w7 hD => ?_)
  · refine Obs.cons (Ob.load (b3) 0 (bl (fmul (b % H) (b % H))) rfl rfl (by kernel_rfl) hr_b3 Tryd.underlying23 rfl (by rw [bl_length]; exact info32)) ?_
    refine Obs.cons (Ob.load (2) 0 (bl (1)) rfl rfl (by kernel_rfl) hGl.g2.pone Tryd.underlying23 rfl (by rw [bl_length]; exact info32)) ?_
    refine Obs.cons (Ob.call 29 #[bv (fmul (b % H) (b % H)), bv (1)] rfl (fun w => by kernel_rfl) (fun w hg => Sub_any (fmul (b % H) (b % H)) (1) (fmul_lt _ _) (by decide) w)) ?_
    refine Obs.cons (Ob.load (3) 0 (bl (dd)) rfl rfl (by kernel_rfl) hGl.g2.pd Tryd.underlying23 rfl (by rw [bl_length]; exact info32)) ?_
    refine Obs.cons (Ob.load (b3) 0 (bl (fmul (b % H) (b % H))) rfl rfl (by kernel_rfl) hr_b3 Tryd.underlying23 rfl (by rw [bl_length]; exact info32)) ?_
    refine Obs.cons (Ob.call 12 #[bv (dd), bv (fmul (b % H) (b % H))] rfl (fun w => by kernel_rfl) (fun w hg => Mul_f (dd) (fmul (b % H) (b % H)) dd_M (fmul_lt _ _) w)) ?_
    refine Obs.cons (Ob.load (2) 0 (bl (1)) rfl rfl (by kernel_rfl) hGl.g2.pone Tryd.underlying23 rfl (by rw [bl_length]; exact info32)) ?_
    refine Obs.cons (Ob.call 19 #[bv (fmul (dd) (fmul (b % H) (b % H))), bv (1)] rfl (fun w => by kernel_rfl) (fun w hg => Add_f (fmul (dd) (fmul (b % H) (b % H))) (1) (fmul_lt _ _) (by decide) w)) ?_
    refine Obs.cons (Ob.call 16 #[bv (sb (fmul (b % H) (b % H)) (1)), bv (fadd (fmul (dd) (fmul (b % H) (b % H))) (1))] rfl (fun w => by kernel_rfl) (fun w hg => SqrtRatio_yes (sb (fmul (b % H) (b % H)) (1)) (fadd (fmul (dd) (fmul (b % H) (b % H))) (1)) (fsb_lt _ _) (fadd_lt _ _) hr w (hGl.grown hg).g1)) ?_
    refine Obs.cons (Ob.imm rfl (fun w => by kernel_rfl)) ?_
    refine Obs.cons (Ob.imm rfl (fun w => by kernel_rfl)) ?_
    refine Obs.cons (Ob.imm rfl (fun w => by kernel_rfl)) ?_
    refine Obs.cons (Ob.new _ rfl rfl zero32.1 (by simp [bl_length])) ?_
    refine Obs.cons (Ob.put 23 rfl rfl rfl (by kernel_rfl) (by kernel_rfl) (by rw [bl_length]; exact info32) (bl_one _)) ?_
    refine Obs.cons (Ob.imm rfl (fun w => by kernel_rfl)) ?_
    exact Obs.nil
  replace hs4 := rangeAt_grown hs4 hD.gr
  replace hr_b3 := rangeAt_grown hr_b3 hD.gr
  replace ht_b1 := there_grown ht_b1 hD.gr
  replace ht_b2 := there_grown ht_b2 hD.gr
  replace ht_b3 := there_grown ht_b3 hD.gr
  obtain ⟨hf_b4, ht_b4⟩ := hD.nw 12 _ _ rfl
  have hr_b4 : w7.rangeAt (β 12) 0 (bl (rt (uu (b % H)) (vv (b % H)))) := hD.rg 13 12 12 (fun _ => bl (rt (uu (b % H)) (vv (b % H)))) rfl
  replace hf_b4 := Nat.le_trans hW.2.2 hf_b4
  replace hW := grown_trans hW hD.gr
  clear hD
  simp only [finAct, putAll, valsFrom, Plan.value, Act.put, List.setIfInBounds_toArray, List.set_cons_zero, List.set_cons_succ]
  replace hGl := hGl0.grown hW
  generalize β (0 + 1 + 1 + 1 + 1 + 1 + 1 + 1 + 1 + 1 + 1 + 1 + 1) = b4 at *
  repeat ((fail_if_success (with_reducible show Code.wp _ (Code.region _ _ _) _ _ _)); go_step)
  refine wp_plain [.imm (.bool true), .imm (.bool false), .imm (.bool false)] (by kernel_rfl) (fun β => ?_) (fun β w8 hD => ?_)
  · refine Obs.cons (Ob.imm rfl (fun w => by kernel_rfl)) ?_
    refine Obs.cons (Ob.imm rfl (fun w => by kernel_rfl)) ?_
    refine Obs.cons (Ob.imm rfl (fun w => by kernel_rfl)) ?_
    exact Obs.nil
  replace hs4 := rangeAt_grown hs4 hD.gr
  replace hr_b3 := rangeAt_grown hr_b3 hD.gr
  replace hr_b4 := rangeAt_grown hr_b4 hD.gr
  replace ht_b1 := there_grown ht_b1 hD.gr
  replace ht_b2 := there_grown ht_b2 hD.gr
  replace ht_b3 := there_grown ht_b3 hD.gr
  replace ht_b4 := there_grown ht_b4 hD.gr
  replace hW := grown_trans hW hD.gr
  clear hD
  simp only [finAct, putAll, valsFrom, Plan.value, Act.put, List.setIfInBounds_toArray, List.set_cons_zero, List.set_cons_succ]
  replace hGl := hGl0.grown hW
  repeat ((fail_if_success (with_reducible show Code.wp _ (Code.region _ _ _) _ _ _)); go_step)
  refine wp_plain [.imm (.bool true), .imm (.bool true), .val (bv (rt (uu (b % H)) (vv (b % H)))), .imm (bv (0)), .imm (.bool true), .imm (.bool true), .imm (.bool true)] (by kernel_rfl) (fun β => ?_) (fun β w9 hD => ?_)
  · refine Obs.cons (Ob.imm rfl (fun w => by kernel_rfl)) ?_
    refine Obs.cons (Ob.imm rfl (fun w => by kernel_rfl)) ?_
    refine Obs.cons (Ob.load (b4) 0 (bl (rt (uu (b % H)) (vv (b % H)))) (by kernel_rfl) rfl (by kernel_rfl) hr_b4 Tryd.underlying23 rfl (by rw [bl_length]; exact info32)) ?_
    refine Obs.cons (Ob.imm (by kernel_rfl) (fun w => exec_build rfl (by kernel_rfl) (build_b0 w))) ?_
    refine Obs.cons (Ob.imm (by kernel_rfl) (fun w => exec_eql_same rfl (rt (uu (b % H)) (vv (b % H))) (0) (by kernel_rfl) (by kernel_rfl) (rt_M _ _) (by decide) (h0) w)) ?_
    refine Obs.cons (Ob.imm rfl (fun w => by kernel_rfl)) ?_
    refine Obs.cons (Ob.imm rfl (fun w => by kernel_rfl)) ?_
    exact Obs.nil
  replace hs4 := rangeAt_grown hs4 hD.gr
  replace hr_b3 := rangeAt_grown hr_b3 hD.gr
  replace hr_b4 := rangeAt_grown hr_b4 hD.gr
  replace ht_b1 := there_grown ht_b1 hD.gr
  replace ht_b2 := there_grown ht_b2 hD.gr
  replace ht_b3 := there_grown ht_b3 hD.gr
  replace ht_b4 := there_grown ht_b4 hD.gr
  replace hW := grown_trans hW hD.gr
  clear hD
  simp only [finAct, putAll, valsFrom, Plan.value, Act.put, List.setIfInBounds_toArray, List.set_cons_zero, List.set_cons_succ]
  replace hGl := hGl0.grown hW
  repeat ((fail_if_success (with_reducible show Code.wp _ (Code.region _ _ _) _ _ _)); go_step)
  refine wp_plain_fin [.imm (pv (0) (0)), .fin, .imm (.int .i64 (42))] (b1) 0 (fun _ => pcs (0) (0)) (by kernel_rfl) (fun β => ?_) (fun β w10 hD => ?_)
  · refine Obs.cons (Ob.imm rfl (fun w => exec_build rfl (by kernel_rfl) (build_pt0 w))) ?_
    refine Obs.cons (Ob.fin rfl (by rw [pcs_length]; exact ht_b1) rfl (by kernel_rfl) (by kernel_rfl) (by rw [pcs_length]; exact infoP) (pcs_one _ _)) ?_
    refine Obs.cons (Ob.imm rfl (fun w => by kernel_rfl)) ?_
    exact Obs.nil
  replace hs4 := rangeAt_grown hs4 hD.gr
  replace hr_b3 := rangeAt_grown hr_b3 hD.gr
  replace hr_b4 := rangeAt_grown hr_b4 hD.gr
  replace ht_b1 := there_grown ht_b1 hD.gr
  replace ht_b2 := there_grown ht_b2 hD.gr
  replace ht_b3 := there_grown ht_b3 hD.gr
  replace ht_b4 := there_grown ht_b4 hD.gr
  replace hW := grown_trans hW hD.gr
  clear hD
  simp only [finAct, putAll, valsFrom, Plan.value, Act.put, List.setIfInBounds_toArray, List.set_cons_zero, List.set_cons_succ]
  replace hGl := hGl0.grown hW
  have hs10 := World.rangeAt_setCells_same w10 (b1) 0 (pcs (0) (0)) (by rw [pcs_length]; exact ht_b1)
  replace hW := grown_setCells hf_b1 (pcs (0) (0)) 0 hW
  generalize w10.setCells (b1) 0 (pcs (0) (0)) = w10s at *
  repeat go_step
  refine bodyPost_ret (v := .tuple #[pv (0) (0), .int .i64 (42)]) (result_cell_tmp Tryd.results28 _ _ (b1) _ (.int .i64 (42)) ?hp ?hv hs10 Tryd.underlying37 rfl (by rw [pcs_length]; exact infoP)) ?hd ?_
  case hp => rfl
  case hv => rfl
  case hd => rfl
  exact ⟨rfl, hW⟩

set_option maxRecDepth 100000 in
set_option maxHeartbeats 2000000 in
theorem D_odd (b : Nat) (hb : b < M) (hs : ¬ b < H) (hy : b % H < p) (hr : rok (uu (b % H)) (vv (b % H))) (h0 : ¬ rt (uu (b % H)) (vv (b % H)) = 0) (w : World) (hGl0 : G3 w) :
    Calls Tryd.prog 28 #[bv b] w fun e w' => e = .returned (.tuple #[pv (ng (rt (uu (b % H)) (vv (b % H)))) (b % H), .int .i64 0]) ∧ Grown w w' := by
  have hW := Grown.refl w
  have hGl := hGl0
  go_enter Tryd.func28, Tryd.ntmps28
  repeat ((fail_if_success (with_reducible show Code.wp _ (Code.region _ _ _) _ _ _)); go_step)
  refine wp_plain [.box 23 (bl (b)), .new 37 64, .imm (.int .i64 (0))] (by kernel_rfl) (fun β => ?_) (fun β w1 hD => ?_)
  · refine Obs.cons (Ob.box rfl rfl (by kernel_rfl)) ?_
    refine Obs.cons (Ob.new _ rfl rfl zeroP (by simp [pcs_length])) ?_
    refine Obs.cons (Ob.imm rfl (fun w => by kernel_rfl)) ?_
    exact Obs.nil
  obtain ⟨hf_b0, hr_b0⟩ := hD.bx 0 _ _ rfl
  replace hf_b0 := Nat.le_trans hW.2.2 hf_b0
  obtain ⟨hf_b1, ht_b1⟩ := hD.nw 1 _ _ rfl
  replace hf_b1 := Nat.le_trans hW.2.2 hf_b1
  have hn_b0_b1 := hD.ap 0 1 _ _ rfl rfl rfl rfl (by decide)
  replace hW := grown_trans hW hD.gr
  clear hD
  simp only [finAct, putAll, valsFrom, Plan.value, Act.put, List.setIfInBounds_toArray, List.set_cons_zero, List.set_cons_succ]
  replace hGl := hGl0.grown hW
  generalize β 0 = b0 at *
  generalize β (0 + 1) = b1 at *
  repeat ((fail_if_success (with_reducible show Code.wp _ (Code.region _ _ _) _ _ _)); go_step)
  refine wp_plain [.imm (.pointer (some ⟨b0, 31, none⟩)), .val (.int .u8 (top (b) : Nat)), .imm (.int .u8 (128 : Nat)), .imm (.bool true), .imm (.bool true)] (by kernel_rfl) (fun β => ?_) (fun β w2 hD => ?_)
  · refine Obs.cons (Ob.imm rfl (fun w => exec_idx 31 (by decide) rfl (by kernel_rfl) (by kernel_rfl))) ?_
    refine Obs.cons (Ob.load1 (b0) 31 rfl rfl (by kernel_rfl) (block_lt_of_cell (cell_top hr_b0)) (cell_top hr_b0) (fun w h => run_load8 w h)) ?_
    refine Obs.cons (Ob.imm rfl (fun w => exec_and8 (top (b)) (128) (128) rfl (by kernel_rfl) (by kernel_rfl) (and128_hi ⟨top b, top_lt b⟩ (not_low hb hs)))) ?_
    refine Obs.cons (Ob.imm rfl (fun w => exec_neq8 (128) (0) rfl (by kernel_rfl) (by kernel_rfl) true (rfl))) ?_
    refine Obs.cons (Ob.imm rfl (fun w => by kernel_rfl)) ?_
    exact Obs.nil
  replace hr_b0 := rangeAt_grown hr_b0 hD.gr
  replace ht_b1 := there_grown ht_b1 hD.gr
  replace hW := grown_trans hW hD.gr
  clear hD
  simp only [finAct, putAll, valsFrom, Plan.value, Act.put, List.setIfInBounds_toArray, List.set_cons_zero, List.set_cons_succ]
  replace hGl := hGl0.grown hW
  repeat ((fail_if_success (with_reducible show Code.wp _ (Code.region _ _ _) _ _ _)); go_step)
  refine wp_plain [.val (bv (b)), .new 23 32, .put 1 1 (fun _ => bl (b))] (by kernel_rfl) (fun β => ?_) (fun β w3 hD => ?_)
  · refine Obs.cons (Ob.load (b0) 0 (bl (b)) rfl rfl (by kernel_rfl) hr_b0 Tryd.underlying23 rfl (by rw [bl_length]; exact info32)) ?_
    refine Obs.cons (Ob.new _ rfl rfl zero32.1 (by simp [bl_length])) ?_
    refine Obs.cons (Ob.put 23 rfl rfl rfl (by kernel_rfl) (by kernel_rfl) (by rw [bl_length]; exact info32) (bl_one _)) ?_
    exact Obs.nil
  have hn_b0_b2 := ne_of_fresh hr_b0 (hD.nw 1 _ _ rfl).1
  replace hr_b0 := rangeAt_grown hr_b0 hD.gr
  replace ht_b1 := there_grown ht_b1 hD.gr
  obtain ⟨hf_b2, ht_b2⟩ := hD.nw 1 _ _ rfl
  have hr_b2 : w3.rangeAt (β 1) 0 (bl (b)) := hD.rg 2 1 1 (fun _ => bl (b)) rfl
  replace hf_b2 := Nat.le_trans hW.2.2 hf_b2
  replace hW := grown_trans hW hD.gr
  clear hD
  simp only [finAct, putAll, valsFrom, Plan.value, Act.put, List.setIfInBounds_toArray, List.set_cons_zero, List.set_cons_succ]
  replace hGl := hGl0.grown hW
  generalize β (0 + 1) = b2 at *
  repeat ((fail_if_success (with_reducible show Code.wp _ (Code.region _ _ _) _ _ _)); go_step)
  refine wp_plain_fin [.imm (.pointer (some ⟨b2, 31, none⟩)), .val (.int .u8 (top (b) : Nat)), .imm (.int .u8 (top (b % H) : Nat)), .imm (.pointer (some ⟨b2, 31, none⟩)), .fin] (b2) 31 (fun _ => [.int .u8 (top (b % H) : Nat)]) (by kernel_rfl) (fun β => ?_) (fun β w4 hD => ?_)
  · refine Obs.cons (Ob.imm rfl (fun w => exec_idx 31 (by decide) rfl (by kernel_rfl) (by kernel_rfl))) ?_
    refine Obs.cons (Ob.load1 (b2) 31 rfl rfl (by kernel_rfl) (block_lt_of_cell (cell_top hr_b2)) (cell_top hr_b2) (fun w h => run_load8 w h)) ?_
    refine Obs.cons (Ob.imm rfl (fun w => exec_andNot8 (top (b)) (128) (top (b % H)) rfl (by kernel_rfl) (by kernel_rfl) (by rw [top_low]; exact andNot128 ⟨top b, top_lt b⟩))) ?_
    refine Obs.cons (Ob.imm rfl (fun w => exec_idx 31 (by decide) rfl (by kernel_rfl) (by kernel_rfl))) ?_
    refine Obs.cons (Ob.fin1 (.int .u8 (top (b % H) : Nat)) rfl rfl (there_31 ht_b2) rfl (by kernel_rfl) (by kernel_rfl) (fun w v0 h hf => run_store8 w v0 h hf)) ?_
    exact Obs.nil
  replace hr_b0 := rangeAt_grown hr_b0 hD.gr
  replace hr_b2 := rangeAt_grown hr_b2 hD.gr
  replace ht_b1 := there_grown ht_b1 hD.gr
  replace ht_b2 := there_grown ht_b2 hD.gr
  replace hW := grown_trans hW hD.gr
  clear hD
  simp only [finAct, putAll, valsFrom, Plan.value, Act.put, List.setIfInBounds_toArray, List.set_cons_zero, List.set_cons_succ]
  replace hGl := hGl0.grown hW
  have hs4 : (w4.setCells (b2) 31 [.int .u8 (top (b % H) : Nat)]).rangeAt (b2) 0 (bl (b % H)) := rangeAt_top hr_b2 (low_byte b)
  replace hW := grown_setCells hf_b2 [.int .u8 (top (b % H) : Nat)] 31 hW
  replace ht_b1 := World.there_setCells ht_b1 (b2) 31 [.int .u8 (top (b % H) : Nat)]
  replace ht_b2 := World.there_setCells ht_b2 (b2) 31 [.int .u8 (top (b % H) : Nat)]
  replace hGl := hGl0.grown hW
  generalize w4.setCells (b2) 31 [.int .u8 (top (b % H) : Nat)] = w4s at *
  repeat ((fail_if_success (with_reducible show Code.wp _ (Code.region _ _ _) _ _ _)); go_step)
  refine wp_plain [.val (bv (b % H)), .val (.bool true), .imm (.bool false)] (by kernel_rfl) (fun β => ?_) (fun β w5 hD => ?_)
  · refine Obs.cons (Ob.load (b2) 0 (bl (b % H)) rfl rfl (by kernel_rfl) hs4 Tryd.underlying23 rfl (by rw [bl_length]; exact info32)) ?_
    refine Obs.cons (Ob.call 18 #[bv (b % H)] rfl (fun w => by kernel_rfl) (fun w hg => canon_is (b % H) (low_lt b) true (decide_eq_true hy) w)) ?_
    refine Obs.cons (Ob.imm rfl (fun w => by kernel_rfl)) ?_
    exact Obs.nil
  replace hs4 := rangeAt_grown hs4 hD.gr
  replace ht_b1 := there_grown ht_b1 hD.gr
  replace ht_b2 := there_grown ht_b2 hD.gr
  replace hW := grown_trans hW hD.gr
  clear hD
  simp only [finAct, putAll, valsFrom, Plan.value, Act.put, List.setIfInBounds_toArray, List.set_cons_zero, List.set_cons_succ]
  replace hGl := hGl0.grown hW
  repeat ((fail_if_success (with_reducible show Code.wp _ (Code.region _ _ _) _ _ _)); go_step)
  refine wp_plain [.val (bv (b % H)), .val (bv (fmul (b % H) (b % H))), .new 23 32, .put 2 2 (fun _ => bl (fmul (b % H) (b % H)))] (by kernel_rfl) (fun β => ?_) (fun β w6 hD => ?_)
  · refine Obs.cons (Ob.load (b2) 0 (bl (b % H)) rfl rfl (by kernel_rfl) hs4 Tryd.underlying23 rfl (by rw [bl_length]; exact info32)) ?_
    refine Obs.cons (Ob.call 17 #[bv (b % H)] rfl (fun w => by kernel_rfl) (fun w hg => Square_f (b % H) (low_lt b) w)) ?_
    refine Obs.cons (Ob.new _ rfl rfl zero32.1 (by simp [bl_length])) ?_
    refine Obs.cons (Ob.put 23 rfl rfl rfl (by kernel_rfl) (by kernel_rfl) (by rw [bl_length]; exact info32) (bl_one _)) ?_
    exact Obs.nil
  have hn_b2_b3 := ne_of_fresh hs4 (hD.nw 2 _ _ rfl).1
  replace hs4 := rangeAt_grown hs4 hD.gr
  replace ht_b1 := there_grown ht_b1 hD.gr
  replace ht_b2 := there_grown ht_b2 hD.gr
  obtain ⟨hf_b3, ht_b3⟩ := hD.nw 2 _ _ rfl
  have hr_b3 : w6.rangeAt (β 2) 0 (bl (fmul (b % H) (b % H))) := hD.rg 3 2 2 (fun _ => bl (fmul (b % H) (b % H))) rfl
  replace hf_b3 := Nat.le_trans hW.2.2 hf_b3
  replace hW := grown_trans hW hD.gr
  clear hD
  simp only [finAct, putAll, valsFrom, Plan.value, Act.put, List.setIfInBounds_toArray, List.set_cons_zero, List.set_cons_succ]
  replace hGl := hGl0.grown hW
  generalize β (0 + 1 + 1) = b3 at *
  repeat ((fail_if_success (with_reducible show Code.wp _ (Code.region _ _ _) _ _ _)); go_step)
  replace hs4 := rangeAt_grown hs4 (gdrew w6)
  replace hr_b3 := rangeAt_grown hr_b3 (gdrew w6)
  replace ht_b1 := there_grown ht_b1 (gdrew w6)
  replace ht_b2 := there_grown ht_b2 (gdrew w6)
  replace ht_b3 := there_grown ht_b3 (gdrew w6)
  replace hW := grown_trans hW (gdrew w6)
  replace hGl := hGl0.grown hW
  refine wp_loose [.val (bv (fmul (b % H) (b % H))), .val (bv (1)), .val (bv (sb (fmul (b % H) (b % H)) (1))), .val (bv (dd)), .val (bv (fmul (b % H) (b % H))), .val (bv (fmul (dd) (fmul (b % H) (b % H)))), .val (bv (1)), .val (bv (fadd (fmul (dd) (fmul (b % H) (b % H))) (1))), .val (.tuple #[bv (rt (uu (b % H)) (vv (b % H))), .bool true]), .imm (.tuple #[bv (rt (uu (b % H)) (vv (b % H))), .bool true]), .imm (bv (rt (uu (b % H)) (vv (b % H)))), .imm (.bool true), .new 23 32, .put 12 12 (fun _ => bl (rt (uu (b % H)) (vv (b % H)))), .imm (.bool true)] (by kernel_rfl) (by kernel_rfl) (fun β => ?_) (fun β w7 hD => ?_)
  · refine Obs.cons (Ob.load (b3) 0 (bl (fmul (b % H) (b % H))) rfl rfl (by kernel_rfl) hr_b3 Tryd.underlying23 rfl (by rw [bl_length]; exact info32)) ?_
    refine Obs.cons (Ob.load (2) 0 (bl (1)) rfl rfl (by kernel_rfl) hGl.g2.pone Tryd.underlying23 rfl (by rw [bl_length]; exact info32)) ?_
    refine Obs.cons (Ob.call 29 #[bv (fmul (b % H) (b % H)), bv (1)] rfl (fun w => by kernel_rfl) (fun w hg => Sub_any (fmul (b % H) (b % H)) (1) (fmul_lt _ _) (by decide) w)) ?_
    refine Obs.cons (Ob.load (3) 0 (bl (dd)) rfl rfl (by kernel_rfl) hGl.g2.pd Tryd.underlying23 rfl (by rw [bl_length]; exact info32)) ?_
    refine Obs.cons (Ob.load (b3) 0 (bl (fmul (b % H) (b % H))) rfl rfl (by kernel_rfl) hr_b3 Tryd.underlying23 rfl (by rw [bl_length]; exact info32)) ?_
    refine Obs.cons (Ob.call 12 #[bv (dd), bv (fmul (b % H) (b % H))] rfl (fun w => by kernel_rfl) (fun w hg => Mul_f (dd) (fmul (b % H) (b % H)) dd_M (fmul_lt _ _) w)) ?_
    refine Obs.cons (Ob.load (2) 0 (bl (1)) rfl rfl (by kernel_rfl) hGl.g2.pone Tryd.underlying23 rfl (by rw [bl_length]; exact info32)) ?_
    refine Obs.cons (Ob.call 19 #[bv (fmul (dd) (fmul (b % H) (b % H))), bv (1)] rfl (fun w => by kernel_rfl) (fun w hg => Add_f (fmul (dd) (fmul (b % H) (b % H))) (1) (fmul_lt _ _) (by decide) w)) ?_
    refine Obs.cons (Ob.call 16 #[bv (sb (fmul (b % H) (b % H)) (1)), bv (fadd (fmul (dd) (fmul (b % H) (b % H))) (1))] rfl (fun w => by kernel_rfl) (fun w hg => SqrtRatio_yes (sb (fmul (b % H) (b % H)) (1)) (fadd (fmul (dd) (fmul (b % H) (b % H))) (1)) (fsb_lt _ _) (fadd_lt _ _) hr w (hGl.grown hg).g1)) ?_
    refine Obs.cons (Ob.imm rfl (fun w => by kernel_rfl)) ?_
    refine Obs.cons (Ob.imm rfl (fun w => by kernel_rfl)) ?_
    refine Obs.cons (Ob.imm rfl (fun w => by kernel_rfl)) ?_
    refine Obs.cons (Ob.new _ rfl rfl zero32.1 (by simp [bl_length])) ?_
    refine Obs.cons (Ob.put 23 rfl rfl rfl (by kernel_rfl) (by kernel_rfl) (by rw [bl_length]; exact info32) (bl_one _)) ?_
    refine Obs.cons (Ob.imm rfl (fun w => by kernel_rfl)) ?_
    exact Obs.nil
  have hn_b2_b4 := ne_of_fresh hs4 (hD.nw 12 _ _ rfl).1
  have hn_b3_b4 := ne_of_fresh hr_b3 (hD.nw 12 _ _ rfl).1
  replace hs4 := rangeAt_grown hs4 hD.gr
  replace hr_b3 := rangeAt_grown hr_b3 hD.gr
  replace ht_b1 := there_grown ht_b1 hD.gr
  replace ht_b2 := there_grown ht_b2 hD.gr
  replace ht_b3 := there_grown ht_b3 hD.gr
  obtain ⟨hf_b4, ht_b4⟩ := hD.nw 12 _ _ rfl
  have hr_b4 : w7.rangeAt (β 12) 0 (bl (rt (uu (b % H)) (vv (b % H)))) := hD.rg 13 12 12 (fun _ => bl (rt (uu (b % H)) (vv (b % H)))) rfl
  replace hf_b4 := Nat.le_trans hW.2.2 hf_b4
  replace hW := grown_trans hW hD.gr
  clear hD
  simp only [finAct, putAll, valsFrom, Plan.value, Act.put, List.setIfInBounds_toArray, List.set_cons_zero, List.set_cons_succ]
  replace hGl := hGl0.grown hW
  generalize β (0 + 1 + 1 + 1 + 1 + 1 + 1 + 1 + 1 + 1 + 1 + 1 + 1) = b4 at *
  repeat ((fail_if_success (with_reducible show Code.wp _ (Code.region _ _ _) _ _ _)); go_step)
  refine wp_plain [.imm (.bool true), .imm (.bool false), .imm (.bool false)] (by kernel_rfl) (fun β => ?_) (fun β w8 hD => ?_)
  · refine Obs.cons (Ob.imm rfl (fun w => by kernel_rfl)) ?_
    refine Obs.cons (Ob.imm rfl (fun w => by kernel_rfl)) ?_
    refine Obs.cons (Ob.imm rfl (fun w => by kernel_rfl)) ?_
    exact Obs.nil
  replace hs4 := rangeAt_grown hs4 hD.gr
  replace hr_b3 := rangeAt_grown hr_b3 hD.gr
  replace hr_b4 := rangeAt_grown hr_b4 hD.gr
  replace ht_b1 := there_grown ht_b1 hD.gr
  replace ht_b2 := there_grown ht_b2 hD.gr
  replace ht_b3 := there_grown ht_b3 hD.gr
  replace ht_b4 := there_grown ht_b4 hD.gr
  replace hW := grown_trans hW hD.gr
  clear hD
  simp only [finAct, putAll, valsFrom, Plan.value, Act.put, List.setIfInBounds_toArray, List.set_cons_zero, List.set_cons_succ]
  replace hGl := hGl0.grown hW
  repeat ((fail_if_success (with_reducible show Code.wp _ (Code.region _ _ _) _ _ _)); go_step)
  refine wp_plain [.imm (.bool true), .imm (.bool true), .val (bv (rt (uu (b % H)) (vv (b % H)))), .imm (bv (0)), .imm (.bool false), .imm (.bool false), .imm (.bool false)] (by kernel_rfl) (fun β => ?_) (fun β w9 hD => ?_)
  · refine Obs.cons (Ob.imm rfl (fun w => by kernel_rfl)) ?_
    refine Obs.cons (Ob.imm rfl (fun w => by kernel_rfl)) ?_
    refine Obs.cons (Ob.load (b4) 0 (bl (rt (uu (b % H)) (vv (b % H)))) (by kernel_rfl) rfl (by kernel_rfl) hr_b4 Tryd.underlying23 rfl (by rw [bl_length]; exact info32)) ?_
    refine Obs.cons (Ob.imm (by kernel_rfl) (fun w => exec_build rfl (by kernel_rfl) (build_b0 w))) ?_
    refine Obs.cons (Ob.imm (by kernel_rfl) (fun w => exec_eql_apart rfl (rt (uu (b % H)) (vv (b % H))) (0) (by kernel_rfl) (by kernel_rfl) (rt_M _ _) (by decide) (h0) w)) ?_
    refine Obs.cons (Ob.imm rfl (fun w => by kernel_rfl)) ?_
    refine Obs.cons (Ob.imm rfl (fun w => by kernel_rfl)) ?_
    exact Obs.nil
  replace hs4 := rangeAt_grown hs4 hD.gr
  replace hr_b3 := rangeAt_grown hr_b3 hD.gr
  replace hr_b4 := rangeAt_grown hr_b4 hD.gr
  replace ht_b1 := there_grown ht_b1 hD.gr
  replace ht_b2 := there_grown ht_b2 hD.gr
  replace ht_b3 := there_grown ht_b3 hD.gr
  replace ht_b4 := there_grown ht_b4 hD.gr
  replace hW := grown_trans hW hD.gr
  clear hD
  simp only [finAct, putAll, valsFrom, Plan.value, Act.put, List.setIfInBounds_toArray, List.set_cons_zero, List.set_cons_succ]
  replace hGl := hGl0.grown hW
  repeat ((fail_if_success (with_reducible show Code.wp _ (Code.region _ _ _) _ _ _)); go_step)
  refine wp_plain [.imm (.bool true), .imm (.bool true)] (by kernel_rfl) (fun β => ?_) (fun β w10 hD => ?_)
  · refine Obs.cons (Ob.imm rfl (fun w => by kernel_rfl)) ?_
    refine Obs.cons (Ob.imm rfl (fun w => by kernel_rfl)) ?_
    exact Obs.nil
  replace hs4 := rangeAt_grown hs4 hD.gr
  replace hr_b3 := rangeAt_grown hr_b3 hD.gr
  replace hr_b4 := rangeAt_grown hr_b4 hD.gr
  replace ht_b1 := there_grown ht_b1 hD.gr
  replace ht_b2 := there_grown ht_b2 hD.gr
  replace ht_b3 := there_grown ht_b3 hD.gr
  replace ht_b4 := there_grown ht_b4 hD.gr
  replace hW := grown_trans hW hD.gr
  clear hD
  simp only [finAct, putAll, valsFrom, Plan.value, Act.put, List.setIfInBounds_toArray, List.set_cons_zero, List.set_cons_succ]
  replace hGl := hGl0.grown hW
  repeat ((fail_if_success (with_reducible show Code.wp _ (Code.region _ _ _) _ _ _)); go_step)
  refine wp_plain_fin [.val (bv (rt (uu (b % H)) (vv (b % H)))), .val (bv (ng (rt (uu (b % H)) (vv (b % H))))), .fin] (b4) 0 (fun _ => bl (ng (rt (uu (b % H)) (vv (b % H))))) (by kernel_rfl) (fun β => ?_) (fun β w11 hD => ?_)
  · refine Obs.cons (Ob.load (b4) 0 (bl (rt (uu (b % H)) (vv (b % H)))) rfl rfl (by kernel_rfl) hr_b4 Tryd.underlying23 rfl (by rw [bl_length]; exact info32)) ?_
    refine Obs.cons (Ob.call 31 #[bv (rt (uu (b % H)) (vv (b % H)))] rfl (fun w => by kernel_rfl) (fun w hg => Neg_any (rt (uu (b % H)) (vv (b % H))) (rt_M _ _) w)) ?_
    refine Obs.cons (Ob.fin rfl (by rw [bl_length]; exact ht_b4) rfl (by kernel_rfl) (by kernel_rfl) (by rw [bl_length]; exact info32) (bl_one _)) ?_
    exact Obs.nil
  replace hs4 := rangeAt_grown hs4 hD.gr
  replace hr_b3 := rangeAt_grown hr_b3 hD.gr
  replace hr_b4 := rangeAt_grown hr_b4 hD.gr
  replace ht_b1 := there_grown ht_b1 hD.gr
  replace ht_b2 := there_grown ht_b2 hD.gr
  replace ht_b3 := there_grown ht_b3 hD.gr
  replace ht_b4 := there_grown ht_b4 hD.gr
  replace hW := grown_trans hW hD.gr
  clear hD
  simp only [finAct, putAll, valsFrom, Plan.value, Act.put, List.setIfInBounds_toArray, List.set_cons_zero, List.set_cons_succ]
  replace hGl := hGl0.grown hW
  have hs11 := World.rangeAt_setCells_same w11 (b4) 0 (bl (ng (rt (uu (b % H)) (vv (b % H))))) (by rw [bl_length]; exact ht_b4)
  replace hW := grown_setCells hf_b4 (bl (ng (rt (uu (b % H)) (vv (b % H))))) 0 hW
  replace hs4 := World.rangeAt_setCells_apart hs4 (b4) 0 (bl (ng (rt (uu (b % H)) (vv (b % H))))) (.inl (hn_b2_b4))
  replace ht_b1 := World.there_setCells ht_b1 (b4) 0 (bl (ng (rt (uu (b % H)) (vv (b % H)))))
  replace ht_b2 := World.there_setCells ht_b2 (b4) 0 (bl (ng (rt (uu (b % H)) (vv (b % H)))))
  replace ht_b3 := World.there_setCells ht_b3 (b4) 0 (bl (ng (rt (uu (b % H)) (vv (b % H)))))
  replace ht_b4 := World.there_setCells ht_b4 (b4) 0 (bl (ng (rt (uu (b % H)) (vv (b % H)))))
  replace hGl := hGl0.grown hW
  generalize w11.setCells (b4) 0 (bl (ng (rt (uu (b % H)) (vv (b % H))))) = w11s at *
  repeat ((fail_if_success (with_reducible show Code.wp _ (Code.region _ _ _) _ _ _)); go_step)
  refine wp_plain_fin [.val (bv (ng (rt (uu (b % H)) (vv (b % H))))), .val (bv (b % H)), .imm (pv (ng (rt (uu (b % H)) (vv (b % H)))) (b % H)), .fin, .imm (.int .i64 (0))] (b1) 0 (fun _ => pcs (ng (rt (uu (b % H)) (vv (b % H)))) (b % H)) (by kernel_rfl) (fun β => ?_) (fun β w12 hD => ?_)
  · refine Obs.cons (Ob.load (b4) 0 (bl (ng (rt (uu (b % H)) (vv (b % H))))) rfl rfl (by kernel_rfl) hs11 Tryd.underlying23 rfl (by rw [bl_length]; exact info32)) ?_
    refine Obs.cons (Ob.load (b2) 0 (bl (b % H)) rfl rfl (by kernel_rfl) hs4 Tryd.underlying23 rfl (by rw [bl_length]; exact info32)) ?_
    refine Obs.cons (Ob.imm rfl (fun w => exec_build rfl (by kernel_rfl) (build_pt _ _ w))) ?_
    refine Obs.cons (Ob.fin rfl (by rw [pcs_length]; exact ht_b1) rfl (by kernel_rfl) (by kernel_rfl) (by rw [pcs_length]; exact infoP) (pcs_one _ _)) ?_
    refine Obs.cons (Ob.imm rfl (fun w => by kernel_rfl)) ?_
    exact Obs.nil
  replace hs4 := rangeAt_grown hs4 hD.gr
  replace hs11 := rangeAt_grown hs11 hD.gr
  replace ht_b1 := there_grown ht_b1 hD.gr
  replace ht_b2 := there_grown ht_b2 hD.gr
  replace ht_b3 := there_grown ht_b3 hD.gr
  replace ht_b4 := there_grown ht_b4 hD.gr
  replace hW := grown_trans hW hD.gr
  clear hD
  simp only [finAct, putAll, valsFrom, Plan.value, Act.put, List.setIfInBounds_toArray, List.set_cons_zero, List.set_cons_succ]
  replace hGl := hGl0.grown hW
  have hs12 := World.rangeAt_setCells_same w12 (b1) 0 (pcs (ng (rt (uu (b % H)) (vv (b % H)))) (b % H)) (by rw [pcs_length]; exact ht_b1)
  replace hW := grown_setCells hf_b1 (pcs (ng (rt (uu (b % H)) (vv (b % H)))) (b % H)) 0 hW
  generalize w12.setCells (b1) 0 (pcs (ng (rt (uu (b % H)) (vv (b % H)))) (b % H)) = w12s at *
  repeat go_step
  refine bodyPost_ret (v := .tuple #[pv (ng (rt (uu (b % H)) (vv (b % H)))) (b % H), .int .i64 (0)]) (result_cell_tmp Tryd.results28 _ _ (b1) _ (.int .i64 (0)) ?hp ?hv hs12 Tryd.underlying37 rfl (by rw [pcs_length]; exact infoP)) ?hd ?_
  case hp => rfl
  case hv => rfl
  case hd => rfl
  exact ⟨rfl, hW⟩

set_option maxRecDepth 100000 in
set_option maxHeartbeats 2000000 in
theorem D_even (b : Nat) (hb : b < M) (hs :  b < H) (hy : b % H < p) (hr : rok (uu (b % H)) (vv (b % H))) (w : World) (hGl0 : G3 w) :
    Calls Tryd.prog 28 #[bv b] w fun e w' => e = .returned (.tuple #[pv (rt (uu (b % H)) (vv (b % H))) (b % H), .int .i64 0]) ∧ Grown w w' := by
  have hW := Grown.refl w
  have hGl := hGl0
  go_enter Tryd.func28, Tryd.ntmps28
  repeat ((fail_if_success (with_reducible show Code.wp _ (Code.region _ _ _) _ _ _)); go_step)
  refine wp_plain [.box 23 (bl (b)), .new 37 64, .imm (.int .i64 (0))] (by kernel_rfl) (fun β => ?_) (fun β w1 hD => ?_)
  · refine Obs.cons (Ob.box rfl rfl (by kernel_rfl)) ?_
    refine Obs.cons (Ob.new _ rfl rfl zeroP (by simp [pcs_length])) ?_
    refine Obs.cons (Ob.imm rfl (fun w => by kernel_rfl)) ?_
    exact Obs.nil
  obtain ⟨hf_b0, hr_b0⟩ := hD.bx 0 _ _ rfl
  replace hf_b0 := Nat.le_trans hW.2.2 hf_b0
  obtain ⟨hf_b1, ht_b1⟩ := hD.nw 1 _ _ rfl
  replace hf_b1 := Nat.le_trans hW.2.2 hf_b1
  replace hW := grown_trans hW hD.gr
  clear hD
  simp only [finAct, putAll, valsFrom, Plan.value, Act.put, List.setIfInBounds_toArray, List.set_cons_zero, List.set_cons_succ]
  replace hGl := hGl0.grown hW
  generalize β 0 = b0 at *
  generalize β (0 + 1) = b1 at *
  repeat ((fail_if_success (with_reducible show Code.wp _ (Code.region _ _ _) _ _ _)); go_step)
  refine wp_plain [.imm (.pointer (some ⟨b0, 31, none⟩)), .val (.int .u8 (top (b) : Nat)), .imm (.int .u8 (0 : Nat)), .imm (.bool false), .imm (.bool false)] (by kernel_rfl) (fun β => ?_) (fun β w2 hD => ?_)
  · refine Obs.cons (Ob.imm rfl (fun w => exec_idx 31 (by decide) rfl (by kernel_rfl) (by kernel_rfl))) ?_
    refine Obs.cons (Ob.load1 (b0) 31 rfl rfl (by kernel_rfl) (block_lt_of_cell (cell_top hr_b0)) (cell_top hr_b0) (fun w h => run_load8 w h)) ?_
    refine Obs.cons (Ob.imm rfl (fun w => exec_and8 (top (b)) (128) (0) rfl (by kernel_rfl) (by kernel_rfl) (and128_lo ⟨top b, top_lt b⟩ ((top_big hb).2 hs)))) ?_
    refine Obs.cons (Ob.imm rfl (fun w => exec_neq8 (0) (0) rfl (by kernel_rfl) (by kernel_rfl) false (rfl))) ?_
    refine Obs.cons (Ob.imm rfl (fun w => by kernel_rfl)) ?_
    exact Obs.nil
  replace hr_b0 := rangeAt_grown hr_b0 hD.gr
  replace ht_b1 := there_grown ht_b1 hD.gr
  replace hW := grown_trans hW hD.gr
  clear hD
  simp only [finAct, putAll, valsFrom, Plan.value, Act.put, List.setIfInBounds_toArray, List.set_cons_zero, List.set_cons_succ]
  replace hGl := hGl0.grown hW
  repeat ((fail_if_success (with_reducible show Code.wp _ (Code.region _ _ _) _ _ _)); go_step)
  refine wp_plain [.val (bv (b)), .new 23 32, .put 1 1 (fun _ => bl (b))] (by kernel_rfl) (fun β => ?_) (fun β w3 hD => ?_)
  · refine Obs.cons (Ob.load (b0) 0 (bl (b)) rfl rfl (by kernel_rfl) hr_b0 Tryd.underlying23 rfl (by rw [bl_length]; exact info32)) ?_
    refine Obs.cons (Ob.new _ rfl rfl zero32.1 (by simp [bl_length])) ?_
    refine Obs.cons (Ob.put 23 rfl rfl rfl (by kernel_rfl) (by kernel_rfl) (by rw [bl_length]; exact info32) (bl_one _)) ?_
    exact Obs.nil
  replace hr_b0 := rangeAt_grown hr_b0 hD.gr
  replace ht_b1 := there_grown ht_b1 hD.gr
  obtain ⟨hf_b2, ht_b2⟩ := hD.nw 1 _ _ rfl
  have hr_b2 : w3.rangeAt (β 1) 0 (bl (b)) := hD.rg 2 1 1 (fun _ => bl (b)) rfl
  replace hf_b2 := Nat.le_trans hW.2.2 hf_b2
  replace hW := grown_trans hW hD.gr
  clear hD
  simp only [finAct, putAll, valsFrom, Plan.value, Act.put, List.setIfInBounds_toArray, List.set_cons_zero, List.set_cons_succ]
  replace hGl := hGl0.grown hW
  generalize β (0 + 1) = b2 at *
  repeat ((fail_if_success (with_reducible show Code.wp _ (Code.region _ _ _) _ _ _)); go_step)
  refine wp_plain_fin [.imm (.pointer (some ⟨b2, 31, none⟩)), .val (.int .u8 (top (b) : Nat)), .imm (.int .u8 (top (b % H) : Nat)), .imm (.pointer (some ⟨b2, 31, none⟩)), .fin] (b2) 31 (fun _ => [.int .u8 (top (b % H) : Nat)]) (by kernel_rfl) (fun β => ?_) (fun β w4 hD => ?_)
  · refine Obs.cons (Ob.imm rfl (fun w => exec_idx 31 (by decide) rfl (by kernel_rfl) (by kernel_rfl))) ?_
    refine Obs.cons (Ob.load1 (b2) 31 rfl rfl (by kernel_rfl) (block_lt_of_cell (cell_top hr_b2)) (cell_top hr_b2) (fun w h => run_load8 w h)) ?_
    refine Obs.cons (Ob.imm rfl (fun w => exec_andNot8 (top (b)) (128) (top (b % H)) rfl (by kernel_rfl) (by kernel_rfl) (by rw [top_low]; exact andNot128 ⟨top b, top_lt b⟩))) ?_
    refine Obs.cons (Ob.imm rfl (fun w => exec_idx 31 (by decide) rfl (by kernel_rfl) (by kernel_rfl))) ?_
    refine Obs.cons (Ob.fin1 (.int .u8 (top (b % H) : Nat)) rfl rfl (there_31 ht_b2) rfl (by kernel_rfl) (by kernel_rfl) (fun w v0 h hf => run_store8 w v0 h hf)) ?_
    exact Obs.nil
  replace hr_b0 := rangeAt_grown hr_b0 hD.gr
  replace hr_b2 := rangeAt_grown hr_b2 hD.gr
  replace ht_b1 := there_grown ht_b1 hD.gr
  replace ht_b2 := there_grown ht_b2 hD.gr
  replace hW := grown_trans hW hD.gr
  clear hD
  simp only [finAct, putAll, valsFrom, Plan.value, Act.put, List.setIfInBounds_toArray, List.set_cons_zero, List.set_cons_succ]
  replace hGl := hGl0.grown hW
  have hs4 : (w4.setCells (b2) 31 [.int .u8 (top (b % H) : Nat)]).rangeAt (b2) 0 (bl (b % H)) := rangeAt_top hr_b2 (low_byte b)
  replace hW := grown_setCells hf_b2 [.int .u8 (top (b % H) : Nat)] 31 hW
  replace ht_b1 := World.there_setCells ht_b1 (b2) 31 [.int .u8 (top (b % H) : Nat)]
  replace ht_b2 := World.there_setCells ht_b2 (b2) 31 [.int .u8 (top (b % H) : Nat)]
  replace hGl := hGl0.grown hW
  generalize w4.setCells (b2) 31 [.int .u8 (top (b % H) : Nat)] = w4s at *
  repeat ((fail_if_success (with_reducible show Code.wp _ (Code.region _ _ _) _ _ _)); go_step)
  refine wp_plain [.val (bv (b % H)), .val (.bool true), .imm (.bool false)] (by kernel_rfl) (fun β => ?_) (fun β w5 hD => ?_)
  · refine Obs.cons (Ob.load (b2) 0 (bl (b % H)) rfl rfl (by kernel_rfl) hs4 Tryd.underlying23 rfl (by rw [bl_length]; exact info32)) ?_
    refine Obs.cons (Ob.call 18 #[bv (b % H)] rfl (fun w => by kernel_rfl) (fun w hg => canon_is (b % H) (low_lt b) true (decide_eq_true hy) w)) ?_
    refine Obs.cons (Ob.imm rfl (fun w => by kernel_rfl)) ?_
    exact Obs.nil
  replace hs4 := rangeAt_grown hs4 hD.gr
  replace ht_b1 := there_grown ht_b1 hD.gr
  replace ht_b2 := there_grown ht_b2 hD.gr
  replace hW := grown_trans hW hD.gr
  clear hD
  simp only [finAct, putAll, valsFrom, Plan.value, Act.put, List.setIfInBounds_toArray, List.set_cons_zero, List.set_cons_succ]
  replace hGl := hGl0.grown hW
  repeat ((fail_if_success (with_reducible show Code.wp _ (Code.region _ _ _) _ _ _)); go_step)
  refine wp_plain [.val (bv (b % H)), .val (bv (fmul (b % H) (b % H))), .new 23 32, .put 2 2 (fun _ => bl (fmul (b % H) (b % H)))] (by kernel_rfl) (fun β => ?_) (fun β w6 hD => ?_)
  · refine Obs.cons (Ob.load (b2) 0 (bl (b % H)) rfl rfl (by kernel_rfl) hs4 Tryd.underlying23 rfl (by rw [bl_length]; exact info32)) ?_
    refine Obs.cons (Ob.call 17 #[bv (b % H)] rfl (fun w => by kernel_rfl) (fun w hg => Square_f (b % H) (low_lt b) w)) ?_
    refine Obs.cons (Ob.new _ rfl rfl zero32.1 (by simp [bl_length])) ?_
    refine Obs.cons (Ob.put 23 rfl rfl rfl (by kernel_rfl) (by kernel_rfl) (by rw [bl_length]; exact info32) (bl_one _)) ?_
    exact Obs.nil
  replace hs4 := rangeAt_grown hs4 hD.gr
  replace ht_b1 := there_grown ht_b1 hD.gr
  replace ht_b2 := there_grown ht_b2 hD.gr
  obtain ⟨hf_b3, ht_b3⟩ := hD.nw 2 _ _ rfl
  have hr_b3 : w6.rangeAt (β 2) 0 (bl (fmul (b % H) (b % H))) := hD.rg 3 2 2 (fun _ => bl (fmul (b % H) (b % H))) rfl
  replace hf_b3 := Nat.le_trans hW.2.2 hf_b3
  replace hW := grown_trans hW hD.gr
  clear hD
  simp only [finAct, putAll, valsFrom, Plan.value, Act.put, List.setIfInBounds_toArray, List.set_cons_zero, List.set_cons_succ]
  replace hGl := hGl0.grown hW
  generalize β (0 + 1 + 1) = b3 at *
  repeat ((fail_if_success (with_reducible show Code.wp _ (Code.region _ _ _) _ _ _)); go_step)
  replace hs4 := rangeAt_grown hs4 (gdrew w6)
  replace hr_b3 := rangeAt_grown hr_b3 (gdrew w6)
  replace ht_b1 := there_grown ht_b1 (gdrew w6)
  replace ht_b2 := there_grown ht_b2 (gdrew w6)
  replace ht_b3 := there_grown ht_b3 (gdrew w6)
  replace hW := grown_trans hW (gdrew w6)
  replace hGl := hGl0.grown hW
  refine wp_loose [.val (bv (fmul (b % H) (b % H))), .val (bv (1)), .val (bv (sb (fmul (b % H) (b % H)) (1))), .val (bv (dd)), .val (bv (fmul (b % H) (b % H))), .val (bv (fmul (dd) (fmul (b % H) (b % H)))), .val (bv (1)), .val (bv (fadd (fmul (dd) (fmul (b % H) (b % H))) (1))), .val (.tuple #[bv (rt (uu (b % H)) (vv (b % H))), .bool true]), .imm (.tuple #[bv (rt (uu (b % H)) (vv (b % H))), .bool true]), .imm (bv (rt (uu (b % H)) (vv (b % H)))), .imm (.bool true), .new 23 32, .put 12 12 (fun _ => bl (rt (uu (b % H)) (vv (b % H)))), .imm (.bool true)] (by kernel_rfl) (by kernel_rfl) (fun β => ?_) (fun β w7 hD => ?_)
  · refine Obs.cons (Ob.load (b3) 0 (bl (fmul (b % H) (b % H))) rfl rfl (by kernel_rfl) hr_b3 Tryd.underlying23 rfl (by rw [bl_length]; exact info32)) ?_
    refine Obs.cons (Ob.load (2) 0 (bl (1)) rfl rfl (by kernel_rfl) hGl.g2.pone Tryd.underlying23 rfl (by rw [bl_length]; exact info32)) ?_
    refine Obs.cons (Ob.call 29 #[bv (fmul (b % H) (b % H)), bv (1)] rfl (fun w => by kernel_rfl) (fun w hg => Sub_any (fmul (b % H) (b % H)) (1) (fmul_lt _ _) (by decide) w)) ?_
    refine Obs.cons (Ob.load (3) 0 (bl (dd)) rfl rfl (by kernel_rfl) hGl.g2.pd Tryd.underlying23 rfl (by rw [bl_length]; exact info32)) ?_
    refine Obs.cons (Ob.load (b3) 0 (bl (fmul (b % H) (b % H))) rfl rfl (by kernel_rfl) hr_b3 Tryd.underlying23 rfl (by rw [bl_length]; exact info32)) ?_
    refine Obs.cons (Ob.call 12 #[bv (dd), bv (fmul (b % H) (b % H))] rfl (fun w => by kernel_rfl) (fun w hg => Mul_f (dd) (fmul (b % H) (b % H)) dd_M (fmul_lt _ _) w)) ?_
    refine Obs.cons (Ob.load (2) 0 (bl (1)) rfl rfl (by kernel_rfl) hGl.g2.pone Tryd.underlying23 rfl (by rw [bl_length]; exact info32)) ?_
    refine Obs.cons (Ob.call 19 #[bv (fmul (dd) (fmul (b % H) (b % H))), bv (1)] rfl (fun w => by kernel_rfl) (fun w hg => Add_f (fmul (dd) (fmul (b % H) (b % H))) (1) (fmul_lt _ _) (by decide) w)) ?_
    refine Obs.cons (Ob.call 16 #[bv (sb (fmul (b % H) (b % H)) (1)), bv (fadd (fmul (dd) (fmul (b % H) (b % H))) (1))] rfl (fun w => by kernel_rfl) (fun w hg => SqrtRatio_yes (sb (fmul (b % H) (b % H)) (1)) (fadd (fmul (dd) (fmul (b % H) (b % H))) (1)) (fsb_lt _ _) (fadd_lt _ _) hr w (hGl.grown hg).g1)) ?_
    refine Obs.cons (Ob.imm rfl (fun w => by kernel_rfl)) ?_
    refine Obs.cons (Ob.imm rfl (fun w => by kernel_rfl)) ?_
    refine Obs.cons (Ob.imm rfl (fun w => by kernel_rfl)) ?_
    refine Obs.cons (Ob.new _ rfl rfl zero32.1 (by simp [bl_length])) ?_
    refine Obs.cons (Ob.put 23 rfl rfl rfl (by kernel_rfl) (by kernel_rfl) (by rw [bl_length]; exact info32) (bl_one _)) ?_
    refine Obs.cons (Ob.imm rfl (fun w => by kernel_rfl)) ?_
    exact Obs.nil
  replace hs4 := rangeAt_grown hs4 hD.gr
  replace hr_b3 := rangeAt_grown hr_b3 hD.gr
  replace ht_b1 := there_grown ht_b1 hD.gr
  replace ht_b2 := there_grown ht_b2 hD.gr
  replace ht_b3 := there_grown ht_b3 hD.gr
  obtain ⟨hf_b4, ht_b4⟩ := hD.nw 12 _ _ rfl
  have hr_b4 : w7.rangeAt (β 12) 0 (bl (rt (uu (b % H)) (vv (b % H)))) := hD.rg 13 12 12 (fun _ => bl (rt (uu (b % H)) (vv (b % H)))) rfl
  replace hf_b4 := Nat.le_trans hW.2.2 hf_b4
  replace hW := grown_trans hW hD.gr
  clear hD
  simp only [finAct, putAll, valsFrom, Plan.value, Act.put, List.setIfInBounds_toArray, List.set_cons_zero, List.set_cons_succ]
  replace hGl := hGl0.grown hW
  generalize β (0 + 1 + 1 + 1 + 1 + 1 + 1 + 1 + 1 + 1 + 1 + 1 + 1) = b4 at *
  repeat ((fail_if_success (with_reducible show Code.wp _ (Code.region _ _ _) _ _ _)); go_step)
  refine wp_plain [.imm (.bool true), .imm (.bool false), .imm (.bool false)] (by kernel_rfl) (fun β => ?_) (fun β w8 hD => ?_)
  · refine Obs.cons (Ob.imm rfl (fun w => by kernel_rfl)) ?_
    refine Obs.cons (Ob.imm rfl (fun w => by kernel_rfl)) ?_
    refine Obs.cons (Ob.imm rfl (fun w => by kernel_rfl)) ?_
    exact Obs.nil
  replace hs4 := rangeAt_grown hs4 hD.gr
  replace hr_b3 := rangeAt_grown hr_b3 hD.gr
  replace hr_b4 := rangeAt_grown hr_b4 hD.gr
  replace ht_b1 := there_grown ht_b1 hD.gr
  replace ht_b2 := there_grown ht_b2 hD.gr
  replace ht_b3 := there_grown ht_b3 hD.gr
  replace ht_b4 := there_grown ht_b4 hD.gr
  replace hW := grown_trans hW hD.gr
  clear hD
  simp only [finAct, putAll, valsFrom, Plan.value, Act.put, List.setIfInBounds_toArray, List.set_cons_zero, List.set_cons_succ]
  replace hGl := hGl0.grown hW
  repeat ((fail_if_success (with_reducible show Code.wp _ (Code.region _ _ _) _ _ _)); go_step)
  refine wp_plain [.imm (.bool false), .imm (.bool false), .skip, .skip, .skip, .imm (.bool false), .imm (.bool false)] (by kernel_rfl) (fun β => ?_) (fun β w9 hD => ?_)
  · refine Obs.cons (Ob.imm rfl (fun w => by kernel_rfl)) ?_
    refine Obs.cons (Ob.imm rfl (fun w => by kernel_rfl)) ?_
    refine Obs.cons (Ob.skip (by kernel_rfl)) ?_
    refine Obs.cons (Ob.skip (by kernel_rfl)) ?_
    refine Obs.cons (Ob.skip (by kernel_rfl)) ?_
    refine Obs.cons (Ob.imm rfl (fun w => by kernel_rfl)) ?_
    refine Obs.cons (Ob.imm rfl (fun w => by kernel_rfl)) ?_
    exact Obs.nil
  replace hs4 := rangeAt_grown hs4 hD.gr
  replace hr_b3 := rangeAt_grown hr_b3 hD.gr
  replace hr_b4 := rangeAt_grown hr_b4 hD.gr
  replace ht_b1 := there_grown ht_b1 hD.gr
  replace ht_b2 := there_grown ht_b2 hD.gr
  replace ht_b3 := there_grown ht_b3 hD.gr
  replace ht_b4 := there_grown ht_b4 hD.gr
  replace hW := grown_trans hW hD.gr
  clear hD
  simp only [finAct, putAll, valsFrom, Plan.value, Act.put, List.setIfInBounds_toArray, List.set_cons_zero, List.set_cons_succ]
  replace hGl := hGl0.grown hW
  repeat ((fail_if_success (with_reducible show Code.wp _ (Code.region _ _ _) _ _ _)); go_step)
  refine wp_plain [.imm (.bool false), .imm (.bool false)] (by kernel_rfl) (fun β => ?_) (fun β w10 hD => ?_)
  · refine Obs.cons (Ob.imm rfl (fun w => by kernel_rfl)) ?_
    refine Obs.cons (Ob.imm rfl (fun w => by kernel_rfl)) ?_
    exact Obs.nil
  replace hs4 := rangeAt_grown hs4 hD.gr
  replace hr_b3 := rangeAt_grown hr_b3 hD.gr
  replace hr_b4 := rangeAt_grown hr_b4 hD.gr
  replace ht_b1 := there_grown ht_b1 hD.gr
  replace ht_b2 := there_grown ht_b2 hD.gr
  replace ht_b3 := there_grown ht_b3 hD.gr
  replace ht_b4 := there_grown ht_b4 hD.gr
  replace hW := grown_trans hW hD.gr
  clear hD
  simp only [finAct, putAll, valsFrom, Plan.value, Act.put, List.setIfInBounds_toArray, List.set_cons_zero, List.set_cons_succ]
  replace hGl := hGl0.grown hW
  repeat ((fail_if_success (with_reducible show Code.wp _ (Code.region _ _ _) _ _ _)); go_step)
  refine wp_plain_fin [.val (bv (rt (uu (b % H)) (vv (b % H)))), .val (bv (b % H)), .imm (pv (rt (uu (b % H)) (vv (b % H))) (b % H)), .fin, .imm (.int .i64 (0))] (b1) 0 (fun _ => pcs (rt (uu (b % H)) (vv (b % H))) (b % H)) (by kernel_rfl) (fun β => ?_) (fun β w11 hD => ?_)
  · refine Obs.cons (Ob.load (b4) 0 (bl (rt (uu (b % H)) (vv (b % H)))) rfl rfl (by kernel_rfl) hr_b4 Tryd.underlying23 rfl (by rw [bl_length]; exact info32)) ?_
    refine Obs.cons (Ob.load (b2) 0 (bl (b % H)) rfl rfl (by kernel_rfl) hs4 Tryd.underlying23 rfl (by rw [bl_length]; exact info32)) ?_
    refine Obs.cons (Ob.imm rfl (fun w => exec_build rfl (by kernel_rfl) (build_pt _ _ w))) ?_
    refine Obs.cons (Ob.fin rfl (by rw [pcs_length]; exact ht_b1) rfl (by kernel_rfl) (by kernel_rfl) (by rw [pcs_length]; exact infoP) (pcs_one _ _)) ?_
    refine Obs.cons (Ob.imm rfl (fun w => by kernel_rfl)) ?_
    exact Obs.nil
  replace hs4 := rangeAt_grown hs4 hD.gr
  replace hr_b3 := rangeAt_grown hr_b3 hD.gr
  replace hr_b4 := rangeAt_grown hr_b4 hD.gr
  replace ht_b1 := there_grown ht_b1 hD.gr
  replace ht_b2 := there_grown ht_b2 hD.gr
  replace ht_b3 := there_grown ht_b3 hD.gr
  replace ht_b4 := there_grown ht_b4 hD.gr
  replace hW := grown_trans hW hD.gr
  clear hD
  simp only [finAct, putAll, valsFrom, Plan.value, Act.put, List.setIfInBounds_toArray, List.set_cons_zero, List.set_cons_succ]
  replace hGl := hGl0.grown hW
  have hs11 := World.rangeAt_setCells_same w11 (b1) 0 (pcs (rt (uu (b % H)) (vv (b % H))) (b % H)) (by rw [pcs_length]; exact ht_b1)
  replace hW := grown_setCells hf_b1 (pcs (rt (uu (b % H)) (vv (b % H))) (b % H)) 0 hW
  generalize w11.setCells (b1) 0 (pcs (rt (uu (b % H)) (vv (b % H))) (b % H)) = w11s at *
  repeat go_step
  refine bodyPost_ret (v := .tuple #[pv (rt (uu (b % H)) (vv (b % H))) (b % H), .int .i64 (0)]) (result_cell_tmp Tryd.results28 _ _ (b1) _ (.int .i64 (0)) ?hp ?hv hs11 Tryd.underlying37 rfl (by rw [pcs_length]; exact infoP)) ?hd ?_
  case hp => rfl
  case hv => rfl
  case hd => rfl
  exact ⟨rfl, hW⟩

end Go.Proofs.YtoimglbjepppmaaDoor

