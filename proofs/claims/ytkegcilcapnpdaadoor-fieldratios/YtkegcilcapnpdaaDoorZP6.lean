import Derived.Test.YtkegcilcapnpdaaDoorZP5
import Derived.Test.YtkegcilcapnpdaaDoorMa
namespace Go.Proofs.YtkegcilcapnpdaaDoor
open Go.RowKit Go.Shelf FieldNum

theorem rootOfRatio_yes (u v : Nat) (hu : u < M) (hv : v < M) (h : rok u v) (w : World) (hGl0 : G1 w) :
    Calls Tryd.prog 55 #[numV u, numV v] w fun e w' => (∃ z, e = .returned (.tuple #[numV z, .bool true]) ∧ z < M ∧ v * (z * z) % p = u % p ∧ (u % p = 0 → z % p = 0)) ∧ Grown w w' :=
  (rootOfRatio_num u v hu hv w hGl0).mono fun _ _ ⟨a, b⟩ => ⟨a.elim (fun x => x.2) (fun x => absurd h x.1), b⟩
theorem rootOfRatio_no (u v : Nat) (hu : u < M) (hv : v < M) (h : ¬ rok u v) (w : World) (hGl0 : G1 w) :
    Calls Tryd.prog 55 #[numV u, numV v] w fun e w' => e = .returned (.tuple #[numV 0, .bool false]) ∧ Grown w w' :=
  (rootOfRatio_num u v hu hv w hGl0).mono fun _ _ ⟨a, b⟩ => ⟨a.elim (fun x => absurd x.1 h) (fun x => x.2), b⟩

set_option maxRecDepth 100000 in
set_option maxHeartbeats 2000000 in
theorem SqrtRatio_no (u v : Nat) (hu : u < M) (hv : v < M) (h : ¬ rok u v) (w : World) (hGl0 : G1 w) :
    Calls Tryd.prog 18 #[bv u, bv v] w fun e w' => e = .returned (.tuple #[bv 0, .bool false]) ∧ Grown w w' := by
  have hW := Grown.refl w
  have hGl := hGl0
  go_enter Tryd.func18, Tryd.ntmps18
  repeat ((fail_if_success (with_reducible show Code.wp _ (Code.region _ _ _) _ _ _)); go_step)
  refine wp_plain [.box 23 (bl (u)), .box 23 (bl (v)), .new 23 32, .imm (.bool false)] (by kernel_rfl) (fun β => ?_) (fun β w1 hD => ?_)
  · refine Obs.cons (Ob.box rfl rfl (by kernel_rfl)) ?_
    refine Obs.cons (Ob.box rfl rfl (by kernel_rfl)) ?_
    refine Obs.cons (Ob.new _ rfl rfl zero32.1 (by simp [bl_length])) ?_
    refine Obs.cons (Ob.imm rfl (fun w => by kernel_rfl)) ?_
    exact Obs.nil
  obtain ⟨hf_b0, hr_b0⟩ := hD.bx 0 _ _ rfl
  replace hf_b0 := Nat.le_trans hW.2.2 hf_b0
  obtain ⟨hf_b1, hr_b1⟩ := hD.bx 1 _ _ rfl
  replace hf_b1 := Nat.le_trans hW.2.2 hf_b1
  obtain ⟨hf_b2, ht_b2⟩ := hD.nw 2 _ _ rfl
  replace hf_b2 := Nat.le_trans hW.2.2 hf_b2
  replace hW := grown_trans hW hD.gr
  clear hD
  simp only [finAct, putAll, valsFrom, Plan.value, Act.put, List.setIfInBounds_toArray, List.set_cons_zero, List.set_cons_succ]
  replace hGl := hGl0.grown hW
  generalize β 0 = b0 at *
  generalize β (0 + 1) = b1 at *
  generalize β (0 + 1 + 1) = b2 at *
  repeat ((fail_if_success (with_reducible show Code.wp _ (Code.region _ _ _) _ _ _)); go_step)
  replace hr_b0 := rangeAt_grown hr_b0 (gdrew w1)
  replace hr_b1 := rangeAt_grown hr_b1 (gdrew w1)
  replace ht_b2 := there_grown ht_b2 (gdrew w1)
  replace hW := grown_trans hW (gdrew w1)
  replace hGl := hGl0.grown hW
  refine wp_loose [.val (bv (u)), .val (numV (u)), .val (bv (v)), .val (numV (v)), .val (.tuple #[numV (0), .bool false]), .imm (.tuple #[numV (0), .bool false]), .imm (numV (0)), .imm (.bool false), .new 66 4, .put 8 8 (fun _ => nl (0)), .imm (.bool false)] (by kernel_rfl) (by kernel_rfl) (fun β => ?_) (fun β w2 hD => ?_)
  · refine Obs.cons (Ob.load (b0) 0 (bl (u)) rfl rfl (by kernel_rfl) hr_b0 Tryd.underlying23 rfl (by rw [bl_length]; exact info32)) ?_
    refine Obs.cons (Ob.call 50 #[bv (u)] rfl (fun w => by kernel_rfl) (fun w hg => load_num (u) w)) ?_
    refine Obs.cons (Ob.load (b1) 0 (bl (v)) rfl rfl (by kernel_rfl) hr_b1 Tryd.underlying23 rfl (by rw [bl_length]; exact info32)) ?_
    refine Obs.cons (Ob.call 50 #[bv (v)] rfl (fun w => by kernel_rfl) (fun w hg => load_num (v) w)) ?_
    refine Obs.cons (Ob.call 55 #[numV (u), numV (v)] rfl (fun w => by kernel_rfl) (fun w hg => rootOfRatio_no (u) (v) hu hv h w (hGl.grown hg).g1)) ?_
    refine Obs.cons (Ob.imm rfl (fun w => by kernel_rfl)) ?_
    refine Obs.cons (Ob.imm rfl (fun w => by kernel_rfl)) ?_
    refine Obs.cons (Ob.imm rfl (fun w => by kernel_rfl)) ?_
    refine Obs.cons (Ob.new _ rfl rfl zeroN (by simp [nl_length])) ?_
    refine Obs.cons (Ob.put 66 rfl rfl rfl (by kernel_rfl) (by kernel_rfl) (by rw [nl_length]; exact infoN) (nl_one _)) ?_
    refine Obs.cons (Ob.imm rfl (fun w => by kernel_rfl)) ?_
    exact Obs.nil
  replace hr_b0 := rangeAt_grown hr_b0 hD.gr
  replace hr_b1 := rangeAt_grown hr_b1 hD.gr
  replace ht_b2 := there_grown ht_b2 hD.gr
  obtain ⟨hf_b3, ht_b3⟩ := hD.nw 8 _ _ rfl
  have hr_b3 : w2.rangeAt (β 8) 0 (nl (0)) := hD.rg 9 8 8 (fun _ => nl (0)) rfl
  replace hf_b3 := Nat.le_trans hW.2.2 hf_b3
  replace hW := grown_trans hW hD.gr
  clear hD
  simp only [finAct, putAll, valsFrom, Plan.value, Act.put, List.setIfInBounds_toArray, List.set_cons_zero, List.set_cons_succ]
  replace hGl := hGl0.grown hW
  generalize β (0 + 1 + 1 + 1 + 1 + 1 + 1 + 1 + 1) = b3 at *
  repeat ((fail_if_success (with_reducible show Code.wp _ (Code.region _ _ _) _ _ _)); go_step)
  refine wp_plain [.imm (.bool false), .imm (.bool true)] (by kernel_rfl) (fun β => ?_) (fun β w3 hD => ?_)
  · refine Obs.cons (Ob.imm rfl (fun w => by kernel_rfl)) ?_
    refine Obs.cons (Ob.imm rfl (fun w => by kernel_rfl)) ?_
    exact Obs.nil
  replace hr_b0 := rangeAt_grown hr_b0 hD.gr
  replace hr_b1 := rangeAt_grown hr_b1 hD.gr
  replace hr_b3 := rangeAt_grown hr_b3 hD.gr
  replace ht_b2 := there_grown ht_b2 hD.gr
  replace ht_b3 := there_grown ht_b3 hD.gr
  replace hW := grown_trans hW hD.gr
  clear hD
  simp only [finAct, putAll, valsFrom, Plan.value, Act.put, List.setIfInBounds_toArray, List.set_cons_zero, List.set_cons_succ]
  replace hGl := hGl0.grown hW
  repeat ((fail_if_success (with_reducible show Code.wp _ (Code.region _ _ _) _ _ _)); go_step)
  refine wp_plain_fin [.imm (bv (0)), .fin, .imm (.bool false)] (b2) 0 (fun _ => bl (0)) (by kernel_rfl) (fun β => ?_) (fun β w4 hD => ?_)
  · refine Obs.cons (Ob.imm rfl (fun w => exec_build rfl (by kernel_rfl) (build_b0 w))) ?_
    refine Obs.cons (Ob.fin rfl (by rw [bl_length]; exact ht_b2) rfl (by kernel_rfl) (by kernel_rfl) (by rw [bl_length]; exact info32) (bl_one _)) ?_
    refine Obs.cons (Ob.imm rfl (fun w => by kernel_rfl)) ?_
    exact Obs.nil
  replace hr_b0 := rangeAt_grown hr_b0 hD.gr
  replace hr_b1 := rangeAt_grown hr_b1 hD.gr
  replace hr_b3 := rangeAt_grown hr_b3 hD.gr
  replace ht_b2 := there_grown ht_b2 hD.gr
  replace ht_b3 := there_grown ht_b3 hD.gr
  replace hW := grown_trans hW hD.gr
  clear hD
  simp only [finAct, putAll, valsFrom, Plan.value, Act.put, List.setIfInBounds_toArray, List.set_cons_zero, List.set_cons_succ]
  replace hGl := hGl0.grown hW
  have hs4 := World.rangeAt_setCells_same w4 (b2) 0 (bl (0)) (by rw [bl_length]; exact ht_b2)
  replace hW := grown_setCells hf_b2 (bl (0)) 0 hW
  generalize w4.setCells (b2) 0 (bl (0)) = w4s at *
  repeat go_step
  refine bodyPost_ret (v := .tuple #[bv (0), .bool false]) (result_cell_tmp Tryd.results18 _ _ (b2) _ (.bool false) ?hp ?hv hs4 Tryd.underlying23 rfl (by rw [bl_length]; exact info32)) ?hd ?_
  case hp => rfl
  case hv => rfl
  case hd => rfl
  exact ⟨rfl, hW⟩

set_option maxRecDepth 100000 in
set_option maxHeartbeats 2000000 in
theorem SqrtRatio_yes (u v : Nat) (hu : u < M) (hv : v < M) (h : rok u v) (w : World) (hGl0 : G1 w) :
    Calls Tryd.prog 18 #[bv u, bv v] w fun e w' => e = .returned (.tuple #[bv (rt u v), .bool true]) ∧ Grown w w' := by
  have hW := Grown.refl w
  have hGl := hGl0
  go_enter Tryd.func18, Tryd.ntmps18
  repeat ((fail_if_success (with_reducible show Code.wp _ (Code.region _ _ _) _ _ _)); go_step)
  refine wp_plain [.box 23 (bl (u)), .box 23 (bl (v)), .new 23 32, .imm (.bool false)] (by kernel_rfl) (fun β => ?_) (fun β w1 hD => ?_)
  · refine Obs.cons (Ob.box rfl rfl (by kernel_rfl)) ?_
    refine Obs.cons (Ob.box rfl rfl (by kernel_rfl)) ?_
    refine Obs.cons (Ob.new _ rfl rfl zero32.1 (by simp [bl_length])) ?_
    refine Obs.cons (Ob.imm rfl (fun w => by kernel_rfl)) ?_
    exact Obs.nil
  obtain ⟨hf_b0, hr_b0⟩ := hD.bx 0 _ _ rfl
  replace hf_b0 := Nat.le_trans hW.2.2 hf_b0
  obtain ⟨hf_b1, hr_b1⟩ := hD.bx 1 _ _ rfl
  replace hf_b1 := Nat.le_trans hW.2.2 hf_b1
  obtain ⟨hf_b2, ht_b2⟩ := hD.nw 2 _ _ rfl
  replace hf_b2 := Nat.le_trans hW.2.2 hf_b2
  replace hW := grown_trans hW hD.gr
  clear hD
  simp only [finAct, putAll, valsFrom, Plan.value, Act.put, List.setIfInBounds_toArray, List.set_cons_zero, List.set_cons_succ]
  replace hGl := hGl0.grown hW
  generalize β 0 = b0 at *
  generalize β (0 + 1) = b1 at *
  generalize β (0 + 1 + 1) = b2 at *
  repeat ((fail_if_success (with_reducible show Code.wp _ (Code.region _ _ _) _ _ _)); go_step)
  replace hr_b0 := rangeAt_grown hr_b0 (gdrew w1)
  replace hr_b1 := rangeAt_grown hr_b1 (gdrew w1)
  replace ht_b2 := there_grown ht_b2 (gdrew w1)
  replace hW := grown_trans hW (gdrew w1)
  replace hGl := hGl0.grown hW
  refine wp_loose [.val (bv (u)), .val (numV (u)), .val (bv (v)), .val (numV (v)), .any (fun z => .tuple #[numV (z), .bool true]) [] (fun l z => z < M ∧ v * (z * z) % p = u % p ∧ (u % p = 0 → z % p = 0)), .any (fun z => .tuple #[numV (z), .bool true]) [4] (fun l b => b = l.getD 0 0), .any (fun z => numV (z)) [5] (fun l b => b = l.getD 0 0), .imm (.bool true), .new 66 4, .put 8 6 (fun z => nl (z)), .imm (.bool true)] (by kernel_rfl) (by kernel_rfl) (fun β => ?_) (fun β w2 hD => ?_)
  · refine Obs.cons (Ob.load (b0) 0 (bl (u)) rfl rfl (by kernel_rfl) hr_b0 Tryd.underlying23 rfl (by rw [bl_length]; exact info32)) ?_
    refine Obs.cons (Ob.call 50 #[bv (u)] rfl (fun w => by kernel_rfl) (fun w hg => load_num (u) w)) ?_
    refine Obs.cons (Ob.load (b1) 0 (bl (v)) rfl rfl (by kernel_rfl) hr_b1 Tryd.underlying23 rfl (by rw [bl_length]; exact info32)) ?_
    refine Obs.cons (Ob.call 50 #[bv (v)] rfl (fun w => by kernel_rfl) (fun w hg => load_num (v) w)) ?_
    refine Obs.cons (Ob.any 55 #[numV (u), numV (v)] rfl (fun w => by kernel_rfl) (fun hk w hg => rootOfRatio_yes (u) (v) hu hv h w (hGl.grown hg).g1)) ?_
    refine Obs.cons (Ob.der (β 4) rfl (fun _ w => by kernel_rfl) (fun _ => rfl)) ?_
    refine Obs.cons (Ob.der (β 5) rfl (fun _ w => by kernel_rfl) (fun _ => rfl)) ?_
    refine Obs.cons (Ob.imm rfl (fun w => by kernel_rfl)) ?_
    refine Obs.cons (Ob.new _ rfl rfl zeroN (by simp [nl_length])) ?_
    refine Obs.cons (Ob.put 66 rfl rfl rfl (by kernel_rfl) (by kernel_rfl) (by rw [nl_length]; exact infoN) (nl_one _)) ?_
    refine Obs.cons (Ob.imm rfl (fun w => by kernel_rfl)) ?_
    exact Obs.nil
  replace hr_b0 := rangeAt_grown hr_b0 hD.gr
  replace hr_b1 := rangeAt_grown hr_b1 hD.gr
  replace ht_b2 := there_grown ht_b2 hD.gr
  obtain ⟨hf_b3, ht_b3⟩ := hD.nw 8 _ _ rfl
  have hr_b3 : w2.rangeAt (β 8) 0 (nl (β 6)) := hD.rg 9 8 6 (fun z => nl (z)) rfl
  replace hf_b3 := Nat.le_trans hW.2.2 hf_b3
  have hz2_4 : (β 4) < M ∧ v * ((β 4) * (β 4)) % p = u % p ∧ (u % p = 0 → (β 4) % p = 0) := hD.an 4 _ _ _ rfl
  have hz2_5 : β 4 = β 5 := (hD.an 5 _ _ _ rfl : β 5 = β 4).symm
  have hz2_6 : β 5 = β 6 := (hD.an 6 _ _ _ rfl : β 6 = β 5).symm
  replace hW := grown_trans hW hD.gr
  clear hD
  simp only [finAct, putAll, valsFrom, Plan.value, Act.put, List.setIfInBounds_toArray, List.set_cons_zero, List.set_cons_succ]
  replace hGl := hGl0.grown hW
  generalize β (0 + 1 + 1 + 1 + 1 + 1 + 1 + 1 + 1) = b3 at *
  generalize β (0 + 1 + 1 + 1 + 1) = z2_4 at *
  generalize β (0 + 1 + 1 + 1 + 1 + 1) = z2_5 at *
  generalize β (0 + 1 + 1 + 1 + 1 + 1 + 1) = z2_6 at *
  subst hz2_5
  subst hz2_6
  have hq2_4 := Hid.of hz2_4.2
  replace hz2_4 := hz2_4.1
  repeat ((fail_if_success (with_reducible show Code.wp _ (Code.region _ _ _) _ _ _)); go_step)
  refine wp_plain [.imm (.bool true), .imm (.bool false)] (by kernel_rfl) (fun β => ?_) (fun β w3 hD => ?_)
  · refine Obs.cons (Ob.imm rfl (fun w => by kernel_rfl)) ?_
    refine Obs.cons (Ob.imm rfl (fun w => by kernel_rfl)) ?_
    exact Obs.nil
  replace hr_b0 := rangeAt_grown hr_b0 hD.gr
  replace hr_b1 := rangeAt_grown hr_b1 hD.gr
  replace hr_b3 := rangeAt_grown hr_b3 hD.gr
  replace ht_b2 := there_grown ht_b2 hD.gr
  replace ht_b3 := there_grown ht_b3 hD.gr
  replace hW := grown_trans hW hD.gr
  clear hD
  simp only [finAct, putAll, valsFrom, Plan.value, Act.put, List.setIfInBounds_toArray, List.set_cons_zero, List.set_cons_succ]
  replace hGl := hGl0.grown hW
  repeat ((fail_if_success (with_reducible show Code.wp _ (Code.region _ _ _) _ _ _)); go_step)
  by_cases hO0 : z2_4 % p % 2 = 1
  · have hO := Hid.of hO0
    clear hO0
    refine wp_plain [.val (numV (z2_4)), .val (.bool true)] (by kernel_rfl) (fun β => ?_) (fun β w4 hD => ?_)
    · refine Obs.cons (Ob.load (b3) 0 (nl (z2_4)) rfl rfl (by kernel_rfl) hr_b3 Tryd.underlying66 rfl (by rw [nl_length]; exact infoN)) ?_
      refine Obs.cons (Ob.call 56 #[numV (z2_4)] rfl (fun w => by kernel_rfl) (fun w hg => oddn_is (z2_4) hz2_4 true (decide_eq_true hO.out) w)) ?_
      exact Obs.nil
    replace hr_b0 := rangeAt_grown hr_b0 hD.gr
    replace hr_b1 := rangeAt_grown hr_b1 hD.gr
    replace hr_b3 := rangeAt_grown hr_b3 hD.gr
    replace ht_b2 := there_grown ht_b2 hD.gr
    replace ht_b3 := there_grown ht_b3 hD.gr
    replace hW := grown_trans hW hD.gr
    clear hD
    simp only [finAct, putAll, valsFrom, Plan.value, Act.put, List.setIfInBounds_toArray, List.set_cons_zero, List.set_cons_succ]
    replace hGl := hGl0.grown hW
    repeat ((fail_if_success (with_reducible show Code.wp _ (Code.region _ _ _) _ _ _)); go_step)
    refine wp_plain_fin [.val (numV (z2_4)), .any (fun z => numV (z)) [] (fun l z => z < M ∧ z % p = ng (z2_4)), .fin] (b3) 0 (fun β => nl (β 1)) (by kernel_rfl) (fun β => ?_) (fun β w5 hD => ?_)
    · refine Obs.cons (Ob.load (b3) 0 (nl (z2_4)) rfl rfl (by kernel_rfl) hr_b3 Tryd.underlying66 rfl (by rw [nl_length]; exact infoN)) ?_
      refine Obs.cons (Ob.any 57 #[numV (z2_4)] rfl (fun w => by kernel_rfl) (fun hk w hg => negated_num (z2_4) hz2_4 w)) ?_
      refine Obs.cons (Ob.fin rfl (by rw [nl_length]; exact ht_b3) rfl (by kernel_rfl) (by kernel_rfl) (by rw [nl_length]; exact infoN) (nl_one _)) ?_
      exact Obs.nil
    replace hr_b0 := rangeAt_grown hr_b0 hD.gr
    replace hr_b1 := rangeAt_grown hr_b1 hD.gr
    replace hr_b3 := rangeAt_grown hr_b3 hD.gr
    replace ht_b2 := there_grown ht_b2 hD.gr
    replace ht_b3 := there_grown ht_b3 hD.gr
    have hz5_1 : (β 1) < M ∧ (β 1) % p = ng (z2_4) := hD.an 1 _ _ _ rfl
    replace hW := grown_trans hW hD.gr
    clear hD
    simp only [finAct, putAll, valsFrom, Plan.value, Act.put, List.setIfInBounds_toArray, List.set_cons_zero, List.set_cons_succ]
    replace hGl := hGl0.grown hW
    generalize β (0 + 1) = z5_1 at *
    have hq5_1 := Hid.of hz5_1.2
    replace hz5_1 := hz5_1.1
    have hs5 := World.rangeAt_setCells_same w5 (b3) 0 (nl (z5_1)) (by rw [nl_length]; exact ht_b3)
    replace hW := grown_setCells hf_b3 (nl (z5_1)) 0 hW
    replace ht_b2 := World.there_setCells ht_b2 (b3) 0 (nl (z5_1))
    replace ht_b3 := World.there_setCells ht_b3 (b3) 0 (nl (z5_1))
    replace hGl := hGl0.grown hW
    generalize w5.setCells (b3) 0 (nl (z5_1)) = w5s at *
    repeat ((fail_if_success (with_reducible show Code.wp _ (Code.region _ _ _) _ _ _)); go_step)
    refine wp_plain_fin [.val (numV (z5_1)), .val (bv ((z5_1) % p)), .fin, .imm (.bool true)] (b2) 0 (fun _ => bl ((z5_1) % p)) (by kernel_rfl) (fun β => ?_) (fun β w6 hD => ?_)
    · refine Obs.cons (Ob.load (b3) 0 (nl (z5_1)) rfl rfl (by kernel_rfl) hs5 Tryd.underlying66 rfl (by rw [nl_length]; exact infoN)) ?_
      refine Obs.cons (Ob.call 54 #[numV (z5_1)] rfl (fun w => by kernel_rfl) (fun w hg => bytes_num (z5_1) hz5_1 w)) ?_
      refine Obs.cons (Ob.fin rfl (by rw [bl_length]; exact ht_b2) rfl (by kernel_rfl) (by kernel_rfl) (by rw [bl_length]; exact info32) (bl_one _)) ?_
      refine Obs.cons (Ob.imm rfl (fun w => by kernel_rfl)) ?_
      exact Obs.nil
    replace hs5 := rangeAt_grown hs5 hD.gr
    replace ht_b2 := there_grown ht_b2 hD.gr
    replace ht_b3 := there_grown ht_b3 hD.gr
    replace hW := grown_trans hW hD.gr
    clear hD
    simp only [finAct, putAll, valsFrom, Plan.value, Act.put, List.setIfInBounds_toArray, List.set_cons_zero, List.set_cons_succ]
    replace hGl := hGl0.grown hW
    have hs6 := World.rangeAt_setCells_same w6 (b2) 0 (bl ((z5_1) % p)) (by rw [bl_length]; exact ht_b2)
    replace hW := grown_setCells hf_b2 (bl ((z5_1) % p)) 0 hW
    generalize w6.setCells (b2) 0 (bl ((z5_1) % p)) = w6s at *
    repeat go_step
    refine bodyPost_ret (v := .tuple #[bv ((z5_1) % p), .bool true]) (result_cell_tmp Tryd.results18 _ _ (b2) _ (.bool true) ?hp ?hv hs6 Tryd.underlying23 rfl (by rw [bl_length]; exact info32)) ?hd ?_
    case hp => rfl
    case hv => rfl
    case hd => rfl
    have hrt := root_odd hq2_4.out.1 hq2_4.out.2 hO.out
    refine ⟨?_, hW⟩
    rw [rt_eq hrt, ← hq5_1.out]
  · have hO := Hid.of hO0
    clear hO0
    refine wp_plain [.val (numV (z2_4)), .val (.bool false)] (by kernel_rfl) (fun β => ?_) (fun β w4 hD => ?_)
    · refine Obs.cons (Ob.load (b3) 0 (nl (z2_4)) rfl rfl (by kernel_rfl) hr_b3 Tryd.underlying66 rfl (by rw [nl_length]; exact infoN)) ?_
      refine Obs.cons (Ob.call 56 #[numV (z2_4)] rfl (fun w => by kernel_rfl) (fun w hg => oddn_is (z2_4) hz2_4 false (decide_eq_false hO.out) w)) ?_
      exact Obs.nil
    replace hr_b0 := rangeAt_grown hr_b0 hD.gr
    replace hr_b1 := rangeAt_grown hr_b1 hD.gr
    replace hr_b3 := rangeAt_grown hr_b3 hD.gr
    replace ht_b2 := there_grown ht_b2 hD.gr
    replace ht_b3 := there_grown ht_b3 hD.gr
    replace hW := grown_trans hW hD.gr
    clear hD
    simp only [finAct, putAll, valsFrom, Plan.value, Act.put, List.setIfInBounds_toArray, List.set_cons_zero, List.set_cons_succ]
    replace hGl := hGl0.grown hW
    repeat ((fail_if_success (with_reducible show Code.wp _ (Code.region _ _ _) _ _ _)); go_step)
    refine wp_plain_fin [.val (numV (z2_4)), .val (bv ((z2_4) % p)), .fin, .imm (.bool true)] (b2) 0 (fun _ => bl ((z2_4) % p)) (by kernel_rfl) (fun β => ?_) (fun β w5 hD => ?_)
    · refine Obs.cons (Ob.load (b3) 0 (nl (z2_4)) rfl rfl (by kernel_rfl) hr_b3 Tryd.underlying66 rfl (by rw [nl_length]; exact infoN)) ?_
      refine Obs.cons (Ob.call 54 #[numV (z2_4)] rfl (fun w => by kernel_rfl) (fun w hg => bytes_num (z2_4) hz2_4 w)) ?_
      refine Obs.cons (Ob.fin rfl (by rw [bl_length]; exact ht_b2) rfl (by kernel_rfl) (by kernel_rfl) (by rw [bl_length]; exact info32) (bl_one _)) ?_
      refine Obs.cons (Ob.imm rfl (fun w => by kernel_rfl)) ?_
      exact Obs.nil
    replace hr_b0 := rangeAt_grown hr_b0 hD.gr
    replace hr_b1 := rangeAt_grown hr_b1 hD.gr
    replace hr_b3 := rangeAt_grown hr_b3 hD.gr
    replace ht_b2 := there_grown ht_b2 hD.gr
    replace ht_b3 := there_grown ht_b3 hD.gr
    replace hW := grown_trans hW hD.gr
    clear hD
    simp only [finAct, putAll, valsFrom, Plan.value, Act.put, List.setIfInBounds_toArray, List.set_cons_zero, List.set_cons_succ]
    replace hGl := hGl0.grown hW
    have hs5 := World.rangeAt_setCells_same w5 (b2) 0 (bl ((z2_4) % p)) (by rw [bl_length]; exact ht_b2)
    replace hW := grown_setCells hf_b2 (bl ((z2_4) % p)) 0 hW
    generalize w5.setCells (b2) 0 (bl ((z2_4) % p)) = w5s at *
    repeat go_step
    refine bodyPost_ret (v := .tuple #[bv ((z2_4) % p), .bool true]) (result_cell_tmp Tryd.results18 _ _ (b2) _ (.bool true) ?hp ?hv hs5 Tryd.underlying23 rfl (by rw [bl_length]; exact info32)) ?hd ?_
    case hp => rfl
    case hv => rfl
    case hd => rfl
    have hrt := root_even hq2_4.out.1 hq2_4.out.2 hO.out
    refine ⟨?_, hW⟩
    rw [rt_eq hrt]

end Go.Proofs.YtkegcilcapnpdaaDoor
