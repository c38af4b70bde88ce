import Derived.Test.YtkegcilcapnpdaaDoorZSs
namespace Go.Proofs.YtkegcilcapnpdaaDoor
open Go.RowKit Go.Shelf FieldNum

theorem rt_S (u v : Nat) : rt u v < S256 := le_S (rt_le u v)
set_option maxRecDepth 100000 in
set_option maxHeartbeats 4000000 in
theorem SqrtR_0 (u v : Nat) (hu : u < S256) (hv : v < S256) (h0 : u % p = 0) (w : World) (hGl0 : Gp w) : Calls Tryd.prog 36 #[bv u, bv v] w fun ex w' => ex = .returned (.tuple #[bv (0), .bool true]) ∧ Grown w w' := by
  have hW := Grown.refl w
  have hGl := hGl0
  go_enter Tryd.func36, Tryd.ntmps36
  repeat ((fail_if_success (with_reducible show Code.wp _ (Code.region _ _ _) _ _ _)); go_step)
  refine wp_plain [.box 23 (bl (u)), .box 23 (bl (v)), .new 23 32, .imm (.bool false)] (by kernel_rfl) (fun β => ?_) (fun β w1 hD => ?_)
  · refine Obs.cons (Ob.box rfl rfl (by kernel_rfl)) ?_
    refine Obs.cons (Ob.box rfl rfl (by kernel_rfl)) ?_
    refine Obs.cons (Ob.new _ rfl rfl zero32.1 (by simp [bl_length])) ?_
    refine Obs.cons (Ob.imm rfl (fun w => by kernel_rfl)) ?_
    exact Obs.nil
  obtain ⟨hf_b0, hr_b0⟩ := hD.bx 0 _ _ rfl
  replace hf_b0 := Nat.le_trans hW.2.2 hf_b0
  obtain ⟨hf_b1, hr_b1⟩ := hD.bx 1 _ _ rfl
  replace hf_b1 := Nat.le_trans hW.2.2 hf_b1
  obtain ⟨hf_b2, ht_b2⟩ := hD.nw 2 _ _ rfl
  replace hf_b2 := Nat.le_trans hW.2.2 hf_b2
  replace hW := grown_trans hW hD.gr
  clear hD
  simp only [finAct, putAll, valsFrom, Plan.value, Act.put, List.setIfInBounds_toArray, List.set_cons_zero, List.set_cons_succ]
  replace hGl := hGl0.grown hW
  generalize β 0 = b0 at *
  generalize β (0 + 1) = b1 at *
  generalize β (0 + 1 + 1) = b2 at *
  repeat ((fail_if_success (with_reducible show Code.wp _ (Code.region _ _ _) _ _ _)); go_step)
  refine wp_plain [.box 23 (bl (0))] (by kernel_rfl) (fun β => ?_) (fun β w2 hD => ?_)
  · refine Obs.cons (Ob.newz (bl (0)) rfl rfl zero32.1) ?_
    exact Obs.nil
  replace hr_b0 := rangeAt_grown hr_b0 hD.gr
  replace hr_b1 := rangeAt_grown hr_b1 hD.gr
  replace ht_b2 := there_grown ht_b2 hD.gr
  obtain ⟨hf_b3, hr_b3⟩ := hD.bx 0 _ _ rfl
  replace hf_b3 := Nat.le_trans hW.2.2 hf_b3
  replace hW := grown_trans hW hD.gr
  clear hD
  simp only [finAct, putAll, valsFrom, Plan.value, Act.put, List.setIfInBounds_toArray, List.set_cons_zero, List.set_cons_succ]
  replace hGl := hGl0.grown hW
  generalize β 0 = b3 at *
  repeat ((fail_if_success (with_reducible show Code.wp _ (Code.region _ _ _) _ _ _)); go_step)
  refine wp_plain [.val (bv (u)), .val (sn ((u) % p)), .new 45 16, .put 2 2 (fun _ => il 16 (d16 ((u) % p)))] (by kernel_rfl) (fun β => ?_) (fun β w3 hD => ?_)
  · refine Obs.cons (Ob.load (b0) 0 (bl (u)) rfl rfl (by kernel_rfl) hr_b0 Tryd.underlying23 rfl (by rw [bl_length]; exact info32)) ?_
    refine Obs.cons (Ob.call 62 #[bv (u)] rfl (fun w => by kernel_rfl) (fun w hg => From_r (u) hu w (hGl.grown hg))) ?_
    refine Obs.cons (Ob.new _ rfl rfl zeroS (by simp [il_length])) ?_
    refine Obs.cons (Ob.put 45 rfl rfl rfl (by kernel_rfl) (by kernel_rfl) (by rw [il_length]; exact infoS) (il_one _ _)) ?_
    exact Obs.nil
  replace hr_b0 := rangeAt_grown hr_b0 hD.gr
  replace hr_b1 := rangeAt_grown hr_b1 hD.gr
  replace hr_b3 := rangeAt_grown hr_b3 hD.gr
  replace ht_b2 := there_grown ht_b2 hD.gr
  obtain ⟨hf_b4, ht_b4⟩ := hD.nw 2 _ _ rfl
  have hr_b4 : w3.rangeAt (β 2) 0 (il 16 (d16 ((u) % p))) := hD.rg 3 2 2 (fun _ => il 16 (d16 ((u) % p))) rfl
  replace hf_b4 := Nat.le_trans hW.2.2 hf_b4
  replace hW := grown_trans hW hD.gr
  clear hD
  simp only [finAct, putAll, valsFrom, Plan.value, Act.put, List.setIfInBounds_toArray, List.set_cons_zero, List.set_cons_succ]
  replace hGl := hGl0.grown hW
  generalize β (0 + 1 + 1) = b4 at *
  repeat ((fail_if_success (with_reducible show Code.wp _ (Code.region _ _ _) _ _ _)); go_step)
  refine wp_plain [.val (bv (v)), .val (sn ((v) % p)), .new 45 16, .put 2 2 (fun _ => il 16 (d16 ((v) % p)))] (by kernel_rfl) (fun β => ?_) (fun β w4 hD => ?_)
  · refine Obs.cons (Ob.load (b1) 0 (bl (v)) rfl rfl (by kernel_rfl) hr_b1 Tryd.underlying23 rfl (by rw [bl_length]; exact info32)) ?_
    refine Obs.cons (Ob.call 62 #[bv (v)] rfl (fun w => by kernel_rfl) (fun w hg => From_r (v) hv w (hGl.grown hg))) ?_
    refine Obs.cons (Ob.new _ rfl rfl zeroS (by simp [il_length])) ?_
    refine Obs.cons (Ob.put 45 rfl rfl rfl (by kernel_rfl) (by kernel_rfl) (by rw [il_length]; exact infoS) (il_one _ _)) ?_
    exact Obs.nil
  replace hr_b0 := rangeAt_grown hr_b0 hD.gr
  replace hr_b1 := rangeAt_grown hr_b1 hD.gr
  replace hr_b3 := rangeAt_grown hr_b3 hD.gr
  replace hr_b4 := rangeAt_grown hr_b4 hD.gr
  replace ht_b2 := there_grown ht_b2 hD.gr
  replace ht_b4 := there_grown ht_b4 hD.gr
  obtain ⟨hf_b5, ht_b5⟩ := hD.nw 2 _ _ rfl
  have hr_b5 : w4.rangeAt (β 2) 0 (il 16 (d16 ((v) % p))) := hD.rg 3 2 2 (fun _ => il 16 (d16 ((v) % p))) rfl
  replace hf_b5 := Nat.le_trans hW.2.2 hf_b5
  replace hW := grown_trans hW hD.gr
  clear hD
  simp only [finAct, putAll, valsFrom, Plan.value, Act.put, List.setIfInBounds_toArray, List.set_cons_zero, List.set_cons_succ]
  replace hGl := hGl0.grown hW
  generalize β (0 + 1 + 1) = b5 at *
  repeat ((fail_if_success (with_reducible show Code.wp _ (Code.region _ _ _) _ _ _)); go_step)
  refine wp_plain [.val (sn ((u) % p)), .val (.bool true)] (by kernel_rfl) (fun β => ?_) (fun β w5 hD => ?_)
  · refine Obs.cons (Ob.load (b4) 0 (il 16 (d16 ((u) % p))) rfl rfl (by kernel_rfl) hr_b4 Tryd.underlying45 rfl (by rw [il_length]; exact infoS)) ?_
    refine Obs.cons (Ob.call 70 #[sn ((u) % p)] rfl (fun w => by kernel_rfl) (fun w hg => Zero_b ((u) % p) (mod_S _) true (decide_eq_true h0) w)) ?_
    exact Obs.nil
  replace hr_b0 := rangeAt_grown hr_b0 hD.gr
  replace hr_b1 := rangeAt_grown hr_b1 hD.gr
  replace hr_b3 := rangeAt_grown hr_b3 hD.gr
  replace hr_b4 := rangeAt_grown hr_b4 hD.gr
  replace hr_b5 := rangeAt_grown hr_b5 hD.gr
  replace ht_b2 := there_grown ht_b2 hD.gr
  replace ht_b4 := there_grown ht_b4 hD.gr
  replace ht_b5 := there_grown ht_b5 hD.gr
  replace hW := grown_trans hW hD.gr
  clear hD
  simp only [finAct, putAll, valsFrom, Plan.value, Act.put, List.setIfInBounds_toArray, List.set_cons_zero, List.set_cons_succ]
  replace hGl := hGl0.grown hW
  repeat ((fail_if_success (with_reducible show Code.wp _ (Code.region _ _ _) _ _ _)); go_step)
  refine wp_plain_fin [.val (bv (0)), .fin, .imm (.bool true)] (b2) 0 (fun _ => bl (0)) (by kernel_rfl) (fun β => ?_) (fun β w6 hD => ?_)
  · refine Obs.cons (Ob.load (b3) 0 (bl (0)) rfl rfl (by kernel_rfl) hr_b3 Tryd.underlying23 rfl (by rw [bl_length]; exact info32)) ?_
    refine Obs.cons (Ob.fin rfl (by rw [bl_length]; exact ht_b2) rfl (by kernel_rfl) (by kernel_rfl) (by rw [bl_length]; exact info32) (bl_one _)) ?_
    refine Obs.cons (Ob.imm rfl (fun w => by kernel_rfl)) ?_
    exact Obs.nil
  replace hr_b0 := rangeAt_grown hr_b0 hD.gr
  replace hr_b1 := rangeAt_grown hr_b1 hD.gr
  replace hr_b3 := rangeAt_grown hr_b3 hD.gr
  replace hr_b4 := rangeAt_grown hr_b4 hD.gr
  replace hr_b5 := rangeAt_grown hr_b5 hD.gr
  replace ht_b2 := there_grown ht_b2 hD.gr
  replace ht_b4 := there_grown ht_b4 hD.gr
  replace ht_b5 := there_grown ht_b5 hD.gr
  replace hW := grown_trans hW hD.gr
  clear hD
  simp only [finAct, putAll, valsFrom, Plan.value, Act.put, List.setIfInBounds_toArray, List.set_cons_zero, List.set_cons_succ]
  replace hGl := hGl0.grown hW
  have hs6 := World.rangeAt_setCells_same w6 (b2) 0 (bl (0)) (by rw [bl_length]; exact ht_b2)
  replace hW := grown_setCells hf_b2 (bl (0)) 0 hW
  generalize w6.setCells (b2) 0 (bl (0)) = w6s at *
  repeat go_step
  refine bodyPost_ret (v := .tuple #[bv (0), .bool true]) (result_cell_tmp Tryd.results36 _ _ (b2) _ (.bool true) ?hp ?hv hs6 Tryd.underlying23 rfl (by rw [bl_length]; exact info32)) ?hd ?_
  case hp => rfl
  case hv => rfl
  case hd => rfl
  exact ⟨rfl, hW⟩

set_option maxRecDepth 100000 in
set_option maxHeartbeats 4000000 in
theorem SqrtR_1 (u v : Nat) (hu : u < S256) (hv : v < S256) (h0 : ¬ u % p = 0) (h1 : v % p = 0) (w : World) (hGl0 : Gp w) : Calls Tryd.prog 36 #[bv u, bv v] w fun ex w' => ex = .returned (.tuple #[bv (0), .bool false]) ∧ Grown w w' := by
  have hW := Grown.refl w
  have hGl := hGl0
  go_enter Tryd.func36, Tryd.ntmps36
  repeat ((fail_if_success (with_reducible show Code.wp _ (Code.region _ _ _) _ _ _)); go_step)
  refine wp_plain [.box 23 (bl (u)), .box 23 (bl (v)), .new 23 32, .imm (.bool false)] (by kernel_rfl) (fun β => ?_) (fun β w1 hD => ?_)
  · refine Obs.cons (Ob.box rfl rfl (by kernel_rfl)) ?_
    refine Obs.cons (Ob.box rfl rfl (by kernel_rfl)) ?_
    refine Obs.cons (Ob.new _ rfl rfl zero32.1 (by simp [bl_length])) ?_
    refine Obs.cons (Ob.imm rfl (fun w => by kernel_rfl)) ?_
    exact Obs.nil
  obtain ⟨hf_b0, hr_b0⟩ := hD.bx 0 _ _ rfl
  replace hf_b0 := Nat.le_trans hW.2.2 hf_b0
  obtain ⟨hf_b1, hr_b1⟩ := hD.bx 1 _ _ rfl
  replace hf_b1 := Nat.le_trans hW.2.2 hf_b1
  obtain ⟨hf_b2, ht_b2⟩ := hD.nw 2 _ _ rfl
  replace hf_b2 := Nat.le_trans hW.2.2 hf_b2
  replace hW := grown_trans hW hD.gr
  clear hD
  simp only [finAct, putAll, valsFrom, Plan.value, Act.put, List.setIfInBounds_toArray, List.set_cons_zero, List.set_cons_succ]
  replace hGl := hGl0.grown hW
  generalize β 0 = b0 at *
  generalize β (0 + 1) = b1 at *
  generalize β (0 + 1 + 1) = b2 at *
  repeat ((fail_if_success (with_reducible show Code.wp _ (Code.region _ _ _) _ _ _)); go_step)
  refine wp_plain [.box 23 (bl (0))] (by kernel_rfl) (fun β => ?_) (fun β w2 hD => ?_)
  · refine Obs.cons (Ob.newz (bl (0)) rfl rfl zero32.1) ?_
    exact Obs.nil
  replace hr_b0 := rangeAt_grown hr_b0 hD.gr
  replace hr_b1 := rangeAt_grown hr_b1 hD.gr
  replace ht_b2 := there_grown ht_b2 hD.gr
  obtain ⟨hf_b3, hr_b3⟩ := hD.bx 0 _ _ rfl
  replace hf_b3 := Nat.le_trans hW.2.2 hf_b3
  replace hW := grown_trans hW hD.gr
  clear hD
  simp only [finAct, putAll, valsFrom, Plan.value, Act.put, List.setIfInBounds_toArray, List.set_cons_zero, List.set_cons_succ]
  replace hGl := hGl0.grown hW
  generalize β 0 = b3 at *
  repeat ((fail_if_success (with_reducible show Code.wp _ (Code.region _ _ _) _ _ _)); go_step)
  refine wp_plain [.val (bv (u)), .val (sn ((u) % p)), .new 45 16, .put 2 2 (fun _ => il 16 (d16 ((u) % p)))] (by kernel_rfl) (fun β => ?_) (fun β w3 hD => ?_)
  · refine Obs.cons (Ob.load (b0) 0 (bl (u)) rfl rfl (by kernel_rfl) hr_b0 Tryd.underlying23 rfl (by rw [bl_length]; exact info32)) ?_
    refine Obs.cons (Ob.call 62 #[bv (u)] rfl (fun w => by kernel_rfl) (fun w hg => From_r (u) hu w (hGl.grown hg))) ?_
    refine Obs.cons (Ob.new _ rfl rfl zeroS (by simp [il_length])) ?_
    refine Obs.cons (Ob.put 45 rfl rfl rfl (by kernel_rfl) (by kernel_rfl) (by rw [il_length]; exact infoS) (il_one _ _)) ?_
    exact Obs.nil
  replace hr_b0 := rangeAt_grown hr_b0 hD.gr
  replace hr_b1 := rangeAt_grown hr_b1 hD.gr
  replace hr_b3 := rangeAt_grown hr_b3 hD.gr
  replace ht_b2 := there_grown ht_b2 hD.gr
  obtain ⟨hf_b4, ht_b4⟩ := hD.nw 2 _ _ rfl
  have hr_b4 : w3.rangeAt (β 2) 0 (il 16 (d16 ((u) % p))) := hD.rg 3 2 2 (fun _ => il 16 (d16 ((u) % p))) rfl
  replace hf_b4 := Nat.le_trans hW.2.2 hf_b4
  replace hW := grown_trans hW hD.gr
  clear hD
  simp only [finAct, putAll, valsFrom, Plan.value, Act.put, List.setIfInBounds_toArray, List.set_cons_zero, List.set_cons_succ]
  replace hGl := hGl0.grown hW
  generalize β (0 + 1 + 1) = b4 at *
  repeat ((fail_if_success (with_reducible show Code.wp _ (Code.region _ _ _) _ _ _)); go_step)
  refine wp_plain [.val (bv (v)), .val (sn ((v) % p)), .new 45 16, .put 2 2 (fun _ => il 16 (d16 ((v) % p)))] (by kernel_rfl) (fun β => ?_) (fun β w4 hD => ?_)
  · refine Obs.cons (Ob.load (b1) 0 (bl (v)) rfl rfl (by kernel_rfl) hr_b1 Tryd.underlying23 rfl (by rw [bl_length]; exact info32)) ?_
    refine Obs.cons (Ob.call 62 #[bv (v)] rfl (fun w => by kernel_rfl) (fun w hg => From_r (v) hv w (hGl.grown hg))) ?_
    refine Obs.cons (Ob.new _ rfl rfl zeroS (by simp [il_length])) ?_
    refine Obs.cons (Ob.put 45 rfl rfl rfl (by kernel_rfl) (by kernel_rfl) (by rw [il_length]; exact infoS) (il_one _ _)) ?_
    exact Obs.nil
  replace hr_b0 := rangeAt_grown hr_b0 hD.gr
  replace hr_b1 := rangeAt_grown hr_b1 hD.gr
  replace hr_b3 := rangeAt_grown hr_b3 hD.gr
  replace hr_b4 := rangeAt_grown hr_b4 hD.gr
  replace ht_b2 := there_grown ht_b2 hD.gr
  replace ht_b4 := there_grown ht_b4 hD.gr
  obtain ⟨hf_b5, ht_b5⟩ := hD.nw 2 _ _ rfl
  have hr_b5 : w4.rangeAt (β 2) 0 (il 16 (d16 ((v) % p))) := hD.rg 3 2 2 (fun _ => il 16 (d16 ((v) % p))) rfl
  replace hf_b5 := Nat.le_trans hW.2.2 hf_b5
  replace hW := grown_trans hW hD.gr
  clear hD
  simp only [finAct, putAll, valsFrom, Plan.value, Act.put, List.setIfInBounds_toArray, List.set_cons_zero, List.set_cons_succ]
  replace hGl := hGl0.grown hW
  generalize β (0 + 1 + 1) = b5 at *
  repeat ((fail_if_success (with_reducible show Code.wp _ (Code.region _ _ _) _ _ _)); go_step)
  refine wp_plain [.val (sn ((u) % p)), .val (.bool false)] (by kernel_rfl) (fun β => ?_) (fun β w5 hD => ?_)
  · refine Obs.cons (Ob.load (b4) 0 (il 16 (d16 ((u) % p))) rfl rfl (by kernel_rfl) hr_b4 Tryd.underlying45 rfl (by rw [il_length]; exact infoS)) ?_
    refine Obs.cons (Ob.call 70 #[sn ((u) % p)] rfl (fun w => by kernel_rfl) (fun w hg => Zero_b ((u) % p) (mod_S _) false (decide_eq_false h0) w)) ?_
    exact Obs.nil
  replace hr_b0 := rangeAt_grown hr_b0 hD.gr
  replace hr_b1 := rangeAt_grown hr_b1 hD.gr
  replace hr_b3 := rangeAt_grown hr_b3 hD.gr
  replace hr_b4 := rangeAt_grown hr_b4 hD.gr
  replace hr_b5 := rangeAt_grown hr_b5 hD.gr
  replace ht_b2 := there_grown ht_b2 hD.gr
  replace ht_b4 := there_grown ht_b4 hD.gr
  replace ht_b5 := there_grown ht_b5 hD.gr
  replace hW := grown_trans hW hD.gr
  clear hD
  simp only [finAct, putAll, valsFrom, Plan.value, Act.put, List.setIfInBounds_toArray, List.set_cons_zero, List.set_cons_succ]
  replace hGl := hGl0.grown hW
  repeat ((fail_if_success (with_reducible show Code.wp _ (Code.region _ _ _) _ _ _)); go_step)
  refine wp_plain [.val (sn ((v) % p)), .val (.bool true)] (by kernel_rfl) (fun β => ?_) (fun β w6 hD => ?_)
  · refine Obs.cons (Ob.load (b5) 0 (il 16 (d16 ((v) % p))) rfl rfl (by kernel_rfl) hr_b5 Tryd.underlying45 rfl (by rw [il_length]; exact infoS)) ?_
    refine Obs.cons (Ob.call 70 #[sn ((v) % p)] rfl (fun w => by kernel_rfl) (fun w hg => Zero_b ((v) % p) (mod_S _) true (decide_eq_true h1) w)) ?_
    exact Obs.nil
  replace hr_b0 := rangeAt_grown hr_b0 hD.gr
  replace hr_b1 := rangeAt_grown hr_b1 hD.gr
  replace hr_b3 := rangeAt_grown hr_b3 hD.gr
  replace hr_b4 := rangeAt_grown hr_b4 hD.gr
  replace hr_b5 := rangeAt_grown hr_b5 hD.gr
  replace ht_b2 := there_grown ht_b2 hD.gr
  replace ht_b4 := there_grown ht_b4 hD.gr
  replace ht_b5 := there_grown ht_b5 hD.gr
  replace hW := grown_trans hW hD.gr
  clear hD
  simp only [finAct, putAll, valsFrom, Plan.value, Act.put, List.setIfInBounds_toArray, List.set_cons_zero, List.set_cons_succ]
  replace hGl := hGl0.grown hW
  repeat ((fail_if_success (with_reducible show Code.wp _ (Code.region _ _ _) _ _ _)); go_step)
  refine wp_plain_fin [.val (bv (0)), .fin, .imm (.bool false)] (b2) 0 (fun _ => bl (0)) (by kernel_rfl) (fun β => ?_) (fun β w7 hD => ?_)
  · refine Obs.cons (Ob.load (b3) 0 (bl (0)) rfl rfl (by kernel_rfl) hr_b3 Tryd.underlying23 rfl (by rw [bl_length]; exact info32)) ?_
    refine Obs.cons (Ob.fin rfl (by rw [bl_length]; exact ht_b2) rfl (by kernel_rfl) (by kernel_rfl) (by rw [bl_length]; exact info32) (bl_one _)) ?_
    refine Obs.cons (Ob.imm rfl (fun w => by kernel_rfl)) ?_
    exact Obs.nil
  replace hr_b0 := rangeAt_grown hr_b0 hD.gr
  replace hr_b1 := rangeAt_grown hr_b1 hD.gr
  replace hr_b3 := rangeAt_grown hr_b3 hD.gr
  replace hr_b4 := rangeAt_grown hr_b4 hD.gr
  replace hr_b5 := rangeAt_grown hr_b5 hD.gr
  replace ht_b2 := there_grown ht_b2 hD.gr
  replace ht_b4 := there_grown ht_b4 hD.gr
  replace ht_b5 := there_grown ht_b5 hD.gr
  replace hW := grown_trans hW hD.gr
  clear hD
  simp only [finAct, putAll, valsFrom, Plan.value, Act.put, List.setIfInBounds_toArray, List.set_cons_zero, List.set_cons_succ]
  replace hGl := hGl0.grown hW
  have hs7 := World.rangeAt_setCells_same w7 (b2) 0 (bl (0)) (by rw [bl_length]; exact ht_b2)
  replace hW := grown_setCells hf_b2 (bl (0)) 0 hW
  generalize w7.setCells (b2) 0 (bl (0)) = w7s at *
  repeat go_step
  refine bodyPost_ret (v := .tuple #[bv (0), .bool false]) (result_cell_tmp Tryd.results36 _ _ (b2) _ (.bool false) ?hp ?hv hs7 Tryd.underlying23 rfl (by rw [bl_length]; exact info32)) ?hd ?_
  case hp => rfl
  case hv => rfl
  case hd => rfl
  exact ⟨rfl, hW⟩

set_option maxRecDepth 100000 in
set_option maxHeartbeats 4000000 in
theorem SqrtR_2 (u v : Nat) (hu : u < S256) (hv : v < S256) (h0 : ¬ u % p = 0) (h1 : ¬ v % p = 0) (hl : ¬ leg (((u) % p) * (inv ((v) % p)) % p) = 1) (w : World) (hGl0 : Gp w) : Calls Tryd.prog 36 #[bv u, bv v] w fun ex w' => ex = .returned (.tuple #[bv (0), .bool false]) ∧ Grown w w' := by
  have hW := Grown.refl w
  have hGl := hGl0
  go_enter Tryd.func36, Tryd.ntmps36
  repeat ((fail_if_success (with_reducible show Code.wp _ (Code.region _ _ _) _ _ _)); go_step)
  refine wp_plain [.box 23 (bl (u)), .box 23 (bl (v)), .new 23 32, .imm (.bool false)] (by kernel_rfl) (fun β => ?_) (fun β w1 hD => ?_)
  · refine Obs.cons (Ob.box rfl rfl (by kernel_rfl)) ?_
    refine Obs.cons (Ob.box rfl rfl (by kernel_rfl)) ?_
    refine Obs.cons (Ob.new _ rfl rfl zero32.1 (by simp [bl_length])) ?_
    refine Obs.cons (Ob.imm rfl (fun w => by kernel_rfl)) ?_
    exact Obs.nil
  obtain ⟨hf_b0, hr_b0⟩ := hD.bx 0 _ _ rfl
  replace hf_b0 := Nat.le_trans hW.2.2 hf_b0
  obtain ⟨hf_b1, hr_b1⟩ := hD.bx 1 _ _ rfl
  replace hf_b1 := Nat.le_trans hW.2.2 hf_b1
  obtain ⟨hf_b2, ht_b2⟩ := hD.nw 2 _ _ rfl
  replace hf_b2 := Nat.le_trans hW.2.2 hf_b2
  replace hW := grown_trans hW hD.gr
  clear hD
  simp only [finAct, putAll, valsFrom, Plan.value, Act.put, List.setIfInBounds_toArray, List.set_cons_zero, List.set_cons_succ]
  replace hGl := hGl0.grown hW
  generalize β 0 = b0 at *
  generalize β (0 + 1) = b1 at *
  generalize β (0 + 1 + 1) = b2 at *
  repeat ((fail_if_success (with_reducible show Code.wp _ (Code.region _ _ _) _ _ _)); go_step)
  refine wp_plain [.box 23 (bl (0))] (by kernel_rfl) (fun β => ?_) (fun β w2 hD => ?_)
  · refine Obs.cons (Ob.newz (bl (0)) rfl rfl zero32.1) ?_
    exact Obs.nil
  replace hr_b0 := rangeAt_grown hr_b0 hD.gr
  replace hr_b1 := rangeAt_grown hr_b1 hD.gr
  replace ht_b2 := there_grown ht_b2 hD.gr
  obtain ⟨hf_b3, hr_b3⟩ := hD.bx 0 _ _ rfl
  replace hf_b3 := Nat.le_trans hW.2.2 hf_b3
  replace hW := grown_trans hW hD.gr
  clear hD
  simp only [finAct, putAll, valsFrom, Plan.value, Act.put, List.setIfInBounds_toArray, List.set_cons_zero, List.set_cons_succ]
  replace hGl := hGl0.grown hW
  generalize β 0 = b3 at *
  repeat ((fail_if_success (with_reducible show Code.wp _ (Code.region _ _ _) _ _ _)); go_step)
  refine wp_plain [.val (bv (u)), .val (sn ((u) % p)), .new 45 16, .put 2 2 (fun _ => il 16 (d16 ((u) % p)))] (by kernel_rfl) (fun β => ?_) (fun β w3 hD => ?_)
  · refine Obs.cons (Ob.load (b0) 0 (bl (u)) rfl rfl (by kernel_rfl) hr_b0 Tryd.underlying23 rfl (by rw [bl_length]; exact info32)) ?_
    refine Obs.cons (Ob.call 62 #[bv (u)] rfl (fun w => by kernel_rfl) (fun w hg => From_r (u) hu w (hGl.grown hg))) ?_
    refine Obs.cons (Ob.new _ rfl rfl zeroS (by simp [il_length])) ?_
    refine Obs.cons (Ob.put 45 rfl rfl rfl (by kernel_rfl) (by kernel_rfl) (by rw [il_length]; exact infoS) (il_one _ _)) ?_
    exact Obs.nil
  replace hr_b0 := rangeAt_grown hr_b0 hD.gr
  replace hr_b1 := rangeAt_grown hr_b1 hD.gr
  replace hr_b3 := rangeAt_grown hr_b3 hD.gr
  replace ht_b2 := there_grown ht_b2 hD.gr
  obtain ⟨hf_b4, ht_b4⟩ := hD.nw 2 _ _ rfl
  have hr_b4 : w3.rangeAt (β 2) 0 (il 16 (d16 ((u) % p))) := hD.rg 3 2 2 (fun _ => il 16 (d16 ((u) % p))) rfl
  replace hf_b4 := Nat.le_trans hW.2.2 hf_b4
  replace hW := grown_trans hW hD.gr
  clear hD
  simp only [finAct, putAll, valsFrom, Plan.value, Act.put, List.setIfInBounds_toArray, List.set_cons_zero, List.set_cons_succ]
  replace hGl := hGl0.grown hW
  generalize β (0 + 1 + 1) = b4 at *
  repeat ((fail_if_success (with_reducible show Code.wp _ (Code.region _ _ _) _ _ _)); go_step)
  refine wp_plain [.val (bv (v)), .val (sn ((v) % p)), .new 45 16, .put 2 2 (fun _ => il 16 (d16 ((v) % p)))] (by kernel_rfl) (fun β => ?_) (fun β w4 hD => ?_)
  · refine Obs.cons (Ob.load (b1) 0 (bl (v)) rfl rfl (by kernel_rfl) hr_b1 Tryd.underlying23 rfl (by rw [bl_length]; exact info32)) ?_
    refine Obs.cons (Ob.call 62 #[bv (v)] rfl (fun w => by kernel_rfl) (fun w hg => From_r (v) hv w (hGl.grown hg))) ?_
    refine Obs.cons (Ob.new _ rfl rfl zeroS (by simp [il_length])) ?_
    refine Obs.cons (Ob.put 45 rfl rfl rfl (by kernel_rfl) (by kernel_rfl) (by rw [il_length]; exact infoS) (il_one _ _)) ?_
    exact Obs.nil
  replace hr_b0 := rangeAt_grown hr_b0 hD.gr
  replace hr_b1 := rangeAt_grown hr_b1 hD.gr
  replace hr_b3 := rangeAt_grown hr_b3 hD.gr
  replace hr_b4 := rangeAt_grown hr_b4 hD.gr
  replace ht_b2 := there_grown ht_b2 hD.gr
  replace ht_b4 := there_grown ht_b4 hD.gr
  obtain ⟨hf_b5, ht_b5⟩ := hD.nw 2 _ _ rfl
  have hr_b5 : w4.rangeAt (β 2) 0 (il 16 (d16 ((v) % p))) := hD.rg 3 2 2 (fun _ => il 16 (d16 ((v) % p))) rfl
  replace hf_b5 := Nat.le_trans hW.2.2 hf_b5
  replace hW := grown_trans hW hD.gr
  clear hD
  simp only [finAct, putAll, valsFrom, Plan.value, Act.put, List.setIfInBounds_toArray, List.set_cons_zero, List.set_cons_succ]
  replace hGl := hGl0.grown hW
  generalize β (0 + 1 + 1) = b5 at *
  repeat ((fail_if_success (with_reducible show Code.wp _ (Code.region _ _ _) _ _ _)); go_step)
  refine wp_plain [.val (sn ((u) % p)), .val (.bool false)] (by kernel_rfl) (fun β => ?_) (fun β w5 hD => ?_)
  · refine Obs.cons (Ob.load (b4) 0 (il 16 (d16 ((u) % p))) rfl rfl (by kernel_rfl) hr_b4 Tryd.underlying45 rfl (by rw [il_length]; exact infoS)) ?_
    refine Obs.cons (Ob.call 70 #[sn ((u) % p)] rfl (fun w => by kernel_rfl) (fun w hg => Zero_b ((u) % p) (mod_S _) false (decide_eq_false h0) w)) ?_
    exact Obs.nil
  replace hr_b0 := rangeAt_grown hr_b0 hD.gr
  replace hr_b1 := rangeAt_grown hr_b1 hD.gr
  replace hr_b3 := rangeAt_grown hr_b3 hD.gr
  replace hr_b4 := rangeAt_grown hr_b4 hD.gr
  replace hr_b5 := rangeAt_grown hr_b5 hD.gr
  replace ht_b2 := there_grown ht_b2 hD.gr
  replace ht_b4 := there_grown ht_b4 hD.gr
  replace ht_b5 := there_grown ht_b5 hD.gr
  replace hW := grown_trans hW hD.gr
  clear hD
  simp only [finAct, putAll, valsFrom, Plan.value, Act.put, List.setIfInBounds_toArray, List.set_cons_zero, List.set_cons_succ]
  replace hGl := hGl0.grown hW
  repeat ((fail_if_success (with_reducible show Code.wp _ (Code.region _ _ _) _ _ _)); go_step)
  refine wp_plain [.val (sn ((v) % p)), .val (.bool false)] (by kernel_rfl) (fun β => ?_) (fun β w6 hD => ?_)
  · refine Obs.cons (Ob.load (b5) 0 (il 16 (d16 ((v) % p))) rfl rfl (by kernel_rfl) hr_b5 Tryd.underlying45 rfl (by rw [il_length]; exact infoS)) ?_
    refine Obs.cons (Ob.call 70 #[sn ((v) % p)] rfl (fun w => by kernel_rfl) (fun w hg => Zero_b ((v) % p) (mod_S _) false (decide_eq_false h1) w)) ?_
    exact Obs.nil
  replace hr_b0 := rangeAt_grown hr_b0 hD.gr
  replace hr_b1 := rangeAt_grown hr_b1 hD.gr
  replace hr_b3 := rangeAt_grown hr_b3 hD.gr
  replace hr_b4 := rangeAt_grown hr_b4 hD.gr
  replace hr_b5 := rangeAt_grown hr_b5 hD.gr
  replace ht_b2 := there_grown ht_b2 hD.gr
  replace ht_b4 := there_grown ht_b4 hD.gr
  replace ht_b5 := there_grown ht_b5 hD.gr
  replace hW := grown_trans hW hD.gr
  clear hD
  simp only [finAct, putAll, valsFrom, Plan.value, Act.put, List.setIfInBounds_toArray, List.set_cons_zero, List.set_cons_succ]
  replace hGl := hGl0.grown hW
  repeat ((fail_if_success (with_reducible show Code.wp _ (Code.region _ _ _) _ _ _)); go_step)
  refine wp_plain [.val (sn ((v) % p)), .val (sn (inv ((v) % p))), .new 45 16, .put 2 2 (fun _ => il 16 (d16 (inv ((v) % p))))] (by kernel_rfl) (fun β => ?_) (fun β w7 hD => ?_)
  · refine Obs.cons (Ob.load (b5) 0 (il 16 (d16 ((v) % p))) rfl rfl (by kernel_rfl) hr_b5 Tryd.underlying45 rfl (by rw [il_length]; exact infoS)) ?_
    refine Obs.cons (Ob.call 69 #[sn ((v) % p)] rfl (fun w => by kernel_rfl) (fun w hg => Inverse_r ((v) % p) (mod_S _) w (hGl.grown hg))) ?_
    refine Obs.cons (Ob.new _ rfl rfl zeroS (by simp [il_length])) ?_
    refine Obs.cons (Ob.put 45 rfl rfl rfl (by kernel_rfl) (by kernel_rfl) (by rw [il_length]; exact infoS) (il_one _ _)) ?_
    exact Obs.nil
  replace hr_b0 := rangeAt_grown hr_b0 hD.gr
  replace hr_b1 := rangeAt_grown hr_b1 hD.gr
  replace hr_b3 := rangeAt_grown hr_b3 hD.gr
  replace hr_b4 := rangeAt_grown hr_b4 hD.gr
  replace hr_b5 := rangeAt_grown hr_b5 hD.gr
  replace ht_b2 := there_grown ht_b2 hD.gr
  replace ht_b4 := there_grown ht_b4 hD.gr
  replace ht_b5 := there_grown ht_b5 hD.gr
  obtain ⟨hf_b6, ht_b6⟩ := hD.nw 2 _ _ rfl
  have hr_b6 : w7.rangeAt (β 2) 0 (il 16 (d16 (inv ((v) % p)))) := hD.rg 3 2 2 (fun _ => il 16 (d16 (inv ((v) % p)))) rfl
  replace hf_b6 := Nat.le_trans hW.2.2 hf_b6
  replace hW := grown_trans hW hD.gr
  clear hD
  simp only [finAct, putAll, valsFrom, Plan.value, Act.put, List.setIfInBounds_toArray, List.set_cons_zero, List.set_cons_succ]
  replace hGl := hGl0.grown hW
  generalize β (0 + 1 + 1) = b6 at *
  repeat ((fail_if_success (with_reducible show Code.wp _ (Code.region _ _ _) _ _ _)); go_step)
  refine wp_plain [.val (sn ((u) % p)), .val (sn (inv ((v) % p))), .val (sn (((u) % p) * (inv ((v) % p)) % p)), .new 45 16, .put 3 3 (fun _ => il 16 (d16 (((u) % p) * (inv ((v) % p)) % p)))] (by kernel_rfl) (fun β => ?_) (fun β w8 hD => ?_)
  · refine Obs.cons (Ob.load (b4) 0 (il 16 (d16 ((u) % p))) rfl rfl (by kernel_rfl) hr_b4 Tryd.underlying45 rfl (by rw [il_length]; exact infoS)) ?_
    refine Obs.cons (Ob.load (b6) 0 (il 16 (d16 (inv ((v) % p)))) rfl rfl (by kernel_rfl) hr_b6 Tryd.underlying45 rfl (by rw [il_length]; exact infoS)) ?_
    refine Obs.cons (Ob.call 63 #[sn ((u) % p), sn (inv ((v) % p))] rfl (fun w => by kernel_rfl) (fun w hg => Times_r ((u) % p) (inv ((v) % p)) (mod_S _) (inv_S _) w (hGl.grown hg))) ?_
    refine Obs.cons (Ob.new _ rfl rfl zeroS (by simp [il_length])) ?_
    refine Obs.cons (Ob.put 45 rfl rfl rfl (by kernel_rfl) (by kernel_rfl) (by rw [il_length]; exact infoS) (il_one _ _)) ?_
    exact Obs.nil
  replace hr_b0 := rangeAt_grown hr_b0 hD.gr
  replace hr_b1 := rangeAt_grown hr_b1 hD.gr
  replace hr_b3 := rangeAt_grown hr_b3 hD.gr
  replace hr_b4 := rangeAt_grown hr_b4 hD.gr
  replace hr_b5 := rangeAt_grown hr_b5 hD.gr
  replace hr_b6 := rangeAt_grown hr_b6 hD.gr
  replace ht_b2 := there_grown ht_b2 hD.gr
  replace ht_b4 := there_grown ht_b4 hD.gr
  replace ht_b5 := there_grown ht_b5 hD.gr
  replace ht_b6 := there_grown ht_b6 hD.gr
  obtain ⟨hf_b7, ht_b7⟩ := hD.nw 3 _ _ rfl
  have hr_b7 : w8.rangeAt (β 3) 0 (il 16 (d16 (((u) % p) * (inv ((v) % p)) % p))) := hD.rg 4 3 3 (fun _ => il 16 (d16 (((u) % p) * (inv ((v) % p)) % p))) rfl
  replace hf_b7 := Nat.le_trans hW.2.2 hf_b7
  replace hW := grown_trans hW hD.gr
  clear hD
  simp only [finAct, putAll, valsFrom, Plan.value, Act.put, List.setIfInBounds_toArray, List.set_cons_zero, List.set_cons_succ]
  replace hGl := hGl0.grown hW
  generalize β (0 + 1 + 1 + 1) = b7 at *
  repeat ((fail_if_success (with_reducible show Code.wp _ (Code.region _ _ _) _ _ _)); go_step)
  refine wp_plain [.val (sn (((u) % p) * (inv ((v) % p)) % p)), .val (.int .i64 (leg (((u) % p) * (inv ((v) % p)) % p))), .imm (.bool true)] (by kernel_rfl) (fun β => ?_) (fun β w9 hD => ?_)
  · refine Obs.cons (Ob.load (b7) 0 (il 16 (d16 (((u) % p) * (inv ((v) % p)) % p))) rfl rfl (by kernel_rfl) hr_b7 Tryd.underlying45 rfl (by rw [il_length]; exact infoS)) ?_
    refine Obs.cons (Ob.call 71 #[sn (((u) % p) * (inv ((v) % p)) % p)] rfl (fun w => by kernel_rfl) (fun w hg => Symbol_r (((u) % p) * (inv ((v) % p)) % p) (mod_S _) w (hGl.grown hg))) ?_
    refine Obs.cons (Ob.imm rfl (fun w => exec_neqI rfl (leg (((u) % p) * (inv ((v) % p)) % p)) (1) (by kernel_rfl) (by kernel_rfl) true (by rw [decide_eq_false hl]; rfl))) ?_
    exact Obs.nil
  replace hr_b0 := rangeAt_grown hr_b0 hD.gr
  replace hr_b1 := rangeAt_grown hr_b1 hD.gr
  replace hr_b3 := rangeAt_grown hr_b3 hD.gr
  replace hr_b4 := rangeAt_grown hr_b4 hD.gr
  replace hr_b5 := rangeAt_grown hr_b5 hD.gr
  replace hr_b6 := rangeAt_grown hr_b6 hD.gr
  replace hr_b7 := rangeAt_grown hr_b7 hD.gr
  replace ht_b2 := there_grown ht_b2 hD.gr
  replace ht_b4 := there_grown ht_b4 hD.gr
  replace ht_b5 := there_grown ht_b5 hD.gr
  replace ht_b6 := there_grown ht_b6 hD.gr
  replace ht_b7 := there_grown ht_b7 hD.gr
  replace hW := grown_trans hW hD.gr
  clear hD
  simp only [finAct, putAll, valsFrom, Plan.value, Act.put, List.setIfInBounds_toArray, List.set_cons_zero, List.set_cons_succ]
  replace hGl := hGl0.grown hW
  repeat ((fail_if_success (with_reducible show Code.wp _ (Code.region _ _ _) _ _ _)); go_step)
  refine wp_plain_fin [.val (bv (0)), .fin, .imm (.bool false)] (b2) 0 (fun _ => bl (0)) (by kernel_rfl) (fun β => ?_) (fun β w10 hD => ?_)
  · refine Obs.cons (Ob.load (b3) 0 (bl (0)) rfl rfl (by kernel_rfl) hr_b3 Tryd.underlying23 rfl (by rw [bl_length]; exact info32)) ?_
    refine Obs.cons (Ob.fin rfl (by rw [bl_length]; exact ht_b2) rfl (by kernel_rfl) (by kernel_rfl) (by rw [bl_length]; exact info32) (bl_one _)) ?_
    refine Obs.cons (Ob.imm rfl (fun w => by kernel_rfl)) ?_
    exact Obs.nil
  replace hr_b0 := rangeAt_grown hr_b0 hD.gr
  replace hr_b1 := rangeAt_grown hr_b1 hD.gr
  replace hr_b3 := rangeAt_grown hr_b3 hD.gr
  replace hr_b4 := rangeAt_grown hr_b4 hD.gr
  replace hr_b5 := rangeAt_grown hr_b5 hD.gr
  replace hr_b6 := rangeAt_grown hr_b6 hD.gr
  replace hr_b7 := rangeAt_grown hr_b7 hD.gr
  replace ht_b2 := there_grown ht_b2 hD.gr
  replace ht_b4 := there_grown ht_b4 hD.gr
  replace ht_b5 := there_grown ht_b5 hD.gr
  replace ht_b6 := there_grown ht_b6 hD.gr
  replace ht_b7 := there_grown ht_b7 hD.gr
  replace hW := grown_trans hW hD.gr
  clear hD
  simp only [finAct, putAll, valsFrom, Plan.value, Act.put, List.setIfInBounds_toArray, List.set_cons_zero, List.set_cons_succ]
  replace hGl := hGl0.grown hW
  have hs10 := World.rangeAt_setCells_same w10 (b2) 0 (bl (0)) (by rw [bl_length]; exact ht_b2)
  replace hW := grown_setCells hf_b2 (bl (0)) 0 hW
  generalize w10.setCells (b2) 0 (bl (0)) = w10s at *
  repeat go_step
  refine bodyPost_ret (v := .tuple #[bv (0), .bool false]) (result_cell_tmp Tryd.results36 _ _ (b2) _ (.bool false) ?hp ?hv hs10 Tryd.underlying23 rfl (by rw [bl_length]; exact info32)) ?hd ?_
  case hp => rfl
  case hv => rfl
  case hd => rfl
  exact ⟨rfl, hW⟩

set_option maxRecDepth 100000 in
set_option maxHeartbeats 4000000 in
theorem SqrtR_3 (u v : Nat) (hu : u < S256) (hv : v < S256) (h0 : ¬ u % p = 0) (h1 : ¬ v % p = 0) (hl : leg (((u) % p) * (inv ((v) % p)) % p) = 1) (hq : hp (((u) % p) * (inv ((v) % p)) % p) = 1) (w : World) (hGl0 : Gp w) : Calls Tryd.prog 36 #[bv u, bv v] w fun ex w' => ex = .returned (.tuple #[bv (rt (((u) % p) * (inv ((v) % p)) % p) (1)), .bool true]) ∧ Grown w w' := by
  have hW := Grown.refl w
  have hGl := hGl0
  go_enter Tryd.func36, Tryd.ntmps36
  repeat ((fail_if_success (with_reducible show Code.wp _ (Code.region _ _ _) _ _ _)); go_step)
  refine wp_plain [.box 23 (bl (u)), .box 23 (bl (v)), .new 23 32, .imm (.bool false)] (by kernel_rfl) (fun β => ?_) (fun β w1 hD => ?_)
  · refine Obs.cons (Ob.box rfl rfl (by kernel_rfl)) ?_
    refine Obs.cons (Ob.box rfl rfl (by kernel_rfl)) ?_
    refine Obs.cons (Ob.new _ rfl rfl zero32.1 (by simp [bl_length])) ?_
    refine Obs.cons (Ob.imm rfl (fun w => by kernel_rfl)) ?_
    exact Obs.nil
  obtain ⟨hf_b0, hr_b0⟩ := hD.bx 0 _ _ rfl
  replace hf_b0 := Nat.le_trans hW.2.2 hf_b0
  obtain ⟨hf_b1, hr_b1⟩ := hD.bx 1 _ _ rfl
  replace hf_b1 := Nat.le_trans hW.2.2 hf_b1
  obtain ⟨hf_b2, ht_b2⟩ := hD.nw 2 _ _ rfl
  replace hf_b2 := Nat.le_trans hW.2.2 hf_b2
  replace hW := grown_trans hW hD.gr
  clear hD
  simp only [finAct, putAll, valsFrom, Plan.value, Act.put, List.setIfInBounds_toArray, List.set_cons_zero, List.set_cons_succ]
  replace hGl := hGl0.grown hW
  generalize β 0 = b0 at *
  generalize β (0 + 1) = b1 at *
  generalize β (0 + 1 + 1) = b2 at *
  repeat ((fail_if_success (with_reducible show Code.wp _ (Code.region _ _ _) _ _ _)); go_step)
  refine wp_plain [.box 23 (bl (0))] (by kernel_rfl) (fun β => ?_) (fun β w2 hD => ?_)
  · refine Obs.cons (Ob.newz (bl (0)) rfl rfl zero32.1) ?_
    exact Obs.nil
  replace hr_b0 := rangeAt_grown hr_b0 hD.gr
  replace hr_b1 := rangeAt_grown hr_b1 hD.gr
  replace ht_b2 := there_grown ht_b2 hD.gr
  obtain ⟨hf_b3, hr_b3⟩ := hD.bx 0 _ _ rfl
  replace hf_b3 := Nat.le_trans hW.2.2 hf_b3
  replace hW := grown_trans hW hD.gr
  clear hD
  simp only [finAct, putAll, valsFrom, Plan.value, Act.put, List.setIfInBounds_toArray, List.set_cons_zero, List.set_cons_succ]
  replace hGl := hGl0.grown hW
  generalize β 0 = b3 at *
  repeat ((fail_if_success (with_reducible show Code.wp _ (Code.region _ _ _) _ _ _)); go_step)
  refine wp_plain [.val (bv (u)), .val (sn ((u) % p)), .new 45 16, .put 2 2 (fun _ => il 16 (d16 ((u) % p)))] (by kernel_rfl) (fun β => ?_) (fun β w3 hD => ?_)
  · refine Obs.cons (Ob.load (b0) 0 (bl (u)) rfl rfl (by kernel_rfl) hr_b0 Tryd.underlying23 rfl (by rw [bl_length]; exact info32)) ?_
    refine Obs.cons (Ob.call 62 #[bv (u)] rfl (fun w => by kernel_rfl) (fun w hg => From_r (u) hu w (hGl.grown hg))) ?_
    refine Obs.cons (Ob.new _ rfl rfl zeroS (by simp [il_length])) ?_
    refine Obs.cons (Ob.put 45 rfl rfl rfl (by kernel_rfl) (by kernel_rfl) (by rw [il_length]; exact infoS) (il_one _ _)) ?_
    exact Obs.nil
  replace hr_b0 := rangeAt_grown hr_b0 hD.gr
  replace hr_b1 := rangeAt_grown hr_b1 hD.gr
  replace hr_b3 := rangeAt_grown hr_b3 hD.gr
  replace ht_b2 := there_grown ht_b2 hD.gr
  obtain ⟨hf_b4, ht_b4⟩ := hD.nw 2 _ _ rfl
  have hr_b4 : w3.rangeAt (β 2) 0 (il 16 (d16 ((u) % p))) := hD.rg 3 2 2 (fun _ => il 16 (d16 ((u) % p))) rfl
  replace hf_b4 := Nat.le_trans hW.2.2 hf_b4
  replace hW := grown_trans hW hD.gr
  clear hD
  simp only [finAct, putAll, valsFrom, Plan.value, Act.put, List.setIfInBounds_toArray, List.set_cons_zero, List.set_cons_succ]
  replace hGl := hGl0.grown hW
  generalize β (0 + 1 + 1) = b4 at *
  repeat ((fail_if_success (with_reducible show Code.wp _ (Code.region _ _ _) _ _ _)); go_step)
  refine wp_plain [.val (bv (v)), .val (sn ((v) % p)), .new 45 16, .put 2 2 (fun _ => il 16 (d16 ((v) % p)))] (by kernel_rfl) (fun β => ?_) (fun β w4 hD => ?_)
  · refine Obs.cons (Ob.load (b1) 0 (bl (v)) rfl rfl (by kernel_rfl) hr_b1 Tryd.underlying23 rfl (by rw [bl_length]; exact info32)) ?_
    refine Obs.cons (Ob.call 62 #[bv (v)] rfl (fun w => by kernel_rfl) (fun w hg => From_r (v) hv w (hGl.grown hg))) ?_
    refine Obs.cons (Ob.new _ rfl rfl zeroS (by simp [il_length])) ?_
    refine Obs.cons (Ob.put 45 rfl rfl rfl (by kernel_rfl) (by kernel_rfl) (by rw [il_length]; exact infoS) (il_one _ _)) ?_
    exact Obs.nil
  replace hr_b0 := rangeAt_grown hr_b0 hD.gr
  replace hr_b1 := rangeAt_grown hr_b1 hD.gr
  replace hr_b3 := rangeAt_grown hr_b3 hD.gr
  replace hr_b4 := rangeAt_grown hr_b4 hD.gr
  replace ht_b2 := there_grown ht_b2 hD.gr
  replace ht_b4 := there_grown ht_b4 hD.gr
  obtain ⟨hf_b5, ht_b5⟩ := hD.nw 2 _ _ rfl
  have hr_b5 : w4.rangeAt (β 2) 0 (il 16 (d16 ((v) % p))) := hD.rg 3 2 2 (fun _ => il 16 (d16 ((v) % p))) rfl
  replace hf_b5 := Nat.le_trans hW.2.2 hf_b5
  replace hW := grown_trans hW hD.gr
  clear hD
  simp only [finAct, putAll, valsFrom, Plan.value, Act.put, List.setIfInBounds_toArray, List.set_cons_zero, List.set_cons_succ]
  replace hGl := hGl0.grown hW
  generalize β (0 + 1 + 1) = b5 at *
  repeat ((fail_if_success (with_reducible show Code.wp _ (Code.region _ _ _) _ _ _)); go_step)
  refine wp_plain [.val (sn ((u) % p)), .val (.bool false)] (by kernel_rfl) (fun β => ?_) (fun β w5 hD => ?_)
  · refine Obs.cons (Ob.load (b4) 0 (il 16 (d16 ((u) % p))) rfl rfl (by kernel_rfl) hr_b4 Tryd.underlying45 rfl (by rw [il_length]; exact infoS)) ?_
    refine Obs.cons (Ob.call 70 #[sn ((u) % p)] rfl (fun w => by kernel_rfl) (fun w hg => Zero_b ((u) % p) (mod_S _) false (decide_eq_false h0) w)) ?_
    exact Obs.nil
  replace hr_b0 := rangeAt_grown hr_b0 hD.gr
  replace hr_b1 := rangeAt_grown hr_b1 hD.gr
  replace hr_b3 := rangeAt_grown hr_b3 hD.gr
  replace hr_b4 := rangeAt_grown hr_b4 hD.gr
  replace hr_b5 := rangeAt_grown hr_b5 hD.gr
  replace ht_b2 := there_grown ht_b2 hD.gr
  replace ht_b4 := there_grown ht_b4 hD.gr
  replace ht_b5 := there_grown ht_b5 hD.gr
  replace hW := grown_trans hW hD.gr
  clear hD
  simp only [finAct, putAll, valsFrom, Plan.value, Act.put, List.setIfInBounds_toArray, List.set_cons_zero, List.set_cons_succ]
  replace hGl := hGl0.grown hW
  repeat ((fail_if_success (with_reducible show Code.wp _ (Code.region _ _ _) _ _ _)); go_step)
  refine wp_plain [.val (sn ((v) % p)), .val (.bool false)] (by kernel_rfl) (fun β => ?_) (fun β w6 hD => ?_)
  · refine Obs.cons (Ob.load (b5) 0 (il 16 (d16 ((v) % p))) rfl rfl (by kernel_rfl) hr_b5 Tryd.underlying45 rfl (by rw [il_length]; exact infoS)) ?_
    refine Obs.cons (Ob.call 70 #[sn ((v) % p)] rfl (fun w => by kernel_rfl) (fun w hg => Zero_b ((v) % p) (mod_S _) false (decide_eq_false h1) w)) ?_
    exact Obs.nil
  replace hr_b0 := rangeAt_grown hr_b0 hD.gr
  replace hr_b1 := rangeAt_grown hr_b1 hD.gr
  replace hr_b3 := rangeAt_grown hr_b3 hD.gr
  replace hr_b4 := rangeAt_grown hr_b4 hD.gr
  replace hr_b5 := rangeAt_grown hr_b5 hD.gr
  replace ht_b2 := there_grown ht_b2 hD.gr
  replace ht_b4 := there_grown ht_b4 hD.gr
  replace ht_b5 := there_grown ht_b5 hD.gr
  replace hW := grown_trans hW hD.gr
  clear hD
  simp only [finAct, putAll, valsFrom, Plan.value, Act.put, List.setIfInBounds_toArray, List.set_cons_zero, List.set_cons_succ]
  replace hGl := hGl0.grown hW
  repeat ((fail_if_success (with_reducible show Code.wp _ (Code.region _ _ _) _ _ _)); go_step)
  refine wp_plain [.val (sn ((v) % p)), .val (sn (inv ((v) % p))), .new 45 16, .put 2 2 (fun _ => il 16 (d16 (inv ((v) % p))))] (by kernel_rfl) (fun β => ?_) (fun β w7 hD => ?_)
  · refine Obs.cons (Ob.load (b5) 0 (il 16 (d16 ((v) % p))) rfl rfl (by kernel_rfl) hr_b5 Tryd.underlying45 rfl (by rw [il_length]; exact infoS)) ?_
    refine Obs.cons (Ob.call 69 #[sn ((v) % p)] rfl (fun w => by kernel_rfl) (fun w hg => Inverse_r ((v) % p) (mod_S _) w (hGl.grown hg))) ?_
    refine Obs.cons (Ob.new _ rfl rfl zeroS (by simp [il_length])) ?_
    refine Obs.cons (Ob.put 45 rfl rfl rfl (by kernel_rfl) (by kernel_rfl) (by rw [il_length]; exact infoS) (il_one _ _)) ?_
    exact Obs.nil
  replace hr_b0 := rangeAt_grown hr_b0 hD.gr
  replace hr_b1 := rangeAt_grown hr_b1 hD.gr
  replace hr_b3 := rangeAt_grown hr_b3 hD.gr
  replace hr_b4 := rangeAt_grown hr_b4 hD.gr
  replace hr_b5 := rangeAt_grown hr_b5 hD.gr
  replace ht_b2 := there_grown ht_b2 hD.gr
  replace ht_b4 := there_grown ht_b4 hD.gr
  replace ht_b5 := there_grown ht_b5 hD.gr
  obtain ⟨hf_b6, ht_b6⟩ := hD.nw 2 _ _ rfl
  have hr_b6 : w7.rangeAt (β 2) 0 (il 16 (d16 (inv ((v) % p)))) := hD.rg 3 2 2 (fun _ => il 16 (d16 (inv ((v) % p)))) rfl
  replace hf_b6 := Nat.le_trans hW.2.2 hf_b6
  replace hW := grown_trans hW hD.gr
  clear hD
  simp only [finAct, putAll, valsFrom, Plan.value, Act.put, List.setIfInBounds_toArray, List.set_cons_zero, List.set_cons_succ]
  replace hGl := hGl0.grown hW
  generalize β (0 + 1 + 1) = b6 at *
  repeat ((fail_if_success (with_reducible show Code.wp _ (Code.region _ _ _) _ _ _)); go_step)
  refine wp_plain [.val (sn ((u) % p)), .val (sn (inv ((v) % p))), .val (sn (((u) % p) * (inv ((v) % p)) % p)), .new 45 16, .put 3 3 (fun _ => il 16 (d16 (((u) % p) * (inv ((v) % p)) % p)))] (by kernel_rfl) (fun β => ?_) (fun β w8 hD => ?_)
  · refine Obs.cons (Ob.load (b4) 0 (il 16 (d16 ((u) % p))) rfl rfl (by kernel_rfl) hr_b4 Tryd.underlying45 rfl (by rw [il_length]; exact infoS)) ?_
    refine Obs.cons (Ob.load (b6) 0 (il 16 (d16 (inv ((v) % p)))) rfl rfl (by kernel_rfl) hr_b6 Tryd.underlying45 rfl (by rw [il_length]; exact infoS)) ?_
    refine Obs.cons (Ob.call 63 #[sn ((u) % p), sn (inv ((v) % p))] rfl (fun w => by kernel_rfl) (fun w hg => Times_r ((u) % p) (inv ((v) % p)) (mod_S _) (inv_S _) w (hGl.grown hg))) ?_
    refine Obs.cons (Ob.new _ rfl rfl zeroS (by simp [il_length])) ?_
    refine Obs.cons (Ob.put 45 rfl rfl rfl (by kernel_rfl) (by kernel_rfl) (by rw [il_length]; exact infoS) (il_one _ _)) ?_
    exact Obs.nil
  replace hr_b0 := rangeAt_grown hr_b0 hD.gr
  replace hr_b1 := rangeAt_grown hr_b1 hD.gr
  replace hr_b3 := rangeAt_grown hr_b3 hD.gr
  replace hr_b4 := rangeAt_grown hr_b4 hD.gr
  replace hr_b5 := rangeAt_grown hr_b5 hD.gr
  replace hr_b6 := rangeAt_grown hr_b6 hD.gr
  replace ht_b2 := there_grown ht_b2 hD.gr
  replace ht_b4 := there_grown ht_b4 hD.gr
  replace ht_b5 := there_grown ht_b5 hD.gr
  replace ht_b6 := there_grown ht_b6 hD.gr
  obtain ⟨hf_b7, ht_b7⟩ := hD.nw 3 _ _ rfl
  have hr_b7 : w8.rangeAt (β 3) 0 (il 16 (d16 (((u) % p) * (inv ((v) % p)) % p))) := hD.rg 4 3 3 (fun _ => il 16 (d16 (((u) % p) * (inv ((v) % p)) % p))) rfl
  replace hf_b7 := Nat.le_trans hW.2.2 hf_b7
  replace hW := grown_trans hW hD.gr
  clear hD
  simp only [finAct, putAll, valsFrom, Plan.value, Act.put, List.setIfInBounds_toArray, List.set_cons_zero, List.set_cons_succ]
  replace hGl := hGl0.grown hW
  generalize β (0 + 1 + 1 + 1) = b7 at *
  repeat ((fail_if_success (with_reducible show Code.wp _ (Code.region _ _ _) _ _ _)); go_step)
  refine wp_plain [.val (sn (((u) % p) * (inv ((v) % p)) % p)), .val (.int .i64 (leg (((u) % p) * (inv ((v) % p)) % p))), .imm (.bool false)] (by kernel_rfl) (fun β => ?_) (fun β w9 hD => ?_)
  · refine Obs.cons (Ob.load (b7) 0 (il 16 (d16 (((u) % p) * (inv ((v) % p)) % p))) rfl rfl (by kernel_rfl) hr_b7 Tryd.underlying45 rfl (by rw [il_length]; exact infoS)) ?_
    refine Obs.cons (Ob.call 71 #[sn (((u) % p) * (inv ((v) % p)) % p)] rfl (fun w => by kernel_rfl) (fun w hg => Symbol_r (((u) % p) * (inv ((v) % p)) % p) (mod_S _) w (hGl.grown hg))) ?_
    refine Obs.cons (Ob.imm rfl (fun w => exec_neqI rfl (leg (((u) % p) * (inv ((v) % p)) % p)) (1) (by kernel_rfl) (by kernel_rfl) false (by rw [decide_eq_true hl]; rfl))) ?_
    exact Obs.nil
  replace hr_b0 := rangeAt_grown hr_b0 hD.gr
  replace hr_b1 := rangeAt_grown hr_b1 hD.gr
  replace hr_b3 := rangeAt_grown hr_b3 hD.gr
  replace hr_b4 := rangeAt_grown hr_b4 hD.gr
  replace hr_b5 := rangeAt_grown hr_b5 hD.gr
  replace hr_b6 := rangeAt_grown hr_b6 hD.gr
  replace hr_b7 := rangeAt_grown hr_b7 hD.gr
  replace ht_b2 := there_grown ht_b2 hD.gr
  replace ht_b4 := there_grown ht_b4 hD.gr
  replace ht_b5 := there_grown ht_b5 hD.gr
  replace ht_b6 := there_grown ht_b6 hD.gr
  replace ht_b7 := there_grown ht_b7 hD.gr
  replace hW := grown_trans hW hD.gr
  clear hD
  simp only [finAct, putAll, valsFrom, Plan.value, Act.put, List.setIfInBounds_toArray, List.set_cons_zero, List.set_cons_succ]
  replace hGl := hGl0.grown hW
  repeat ((fail_if_success (with_reducible show Code.wp _ (Code.region _ _ _) _ _ _)); go_step)
  refine wp_plain [.val (sn (((u) % p) * (inv ((v) % p)) % p)), .val (sn (rt (((u) % p) * (inv ((v) % p)) % p) (1))), .new 45 16, .put 2 2 (fun _ => il 16 (d16 (rt (((u) % p) * (inv ((v) % p)) % p) (1))))] (by kernel_rfl) (fun β => ?_) (fun β w10 hD => ?_)
  · refine Obs.cons (Ob.load (b7) 0 (il 16 (d16 (((u) % p) * (inv ((v) % p)) % p))) rfl rfl (by kernel_rfl) hr_b7 Tryd.underlying45 rfl (by rw [il_length]; exact infoS)) ?_
    refine Obs.cons (Ob.call 72 #[sn (((u) % p) * (inv ((v) % p)) % p)] rfl (fun w => by kernel_rfl) (fun w hg => Root_r (((u) % p) * (inv ((v) % p)) % p) (Nat.mod_lt _ p_pos) hq w (hGl.grown hg))) ?_
    refine Obs.cons (Ob.new _ rfl rfl zeroS (by simp [il_length])) ?_
    refine Obs.cons (Ob.put 45 rfl rfl rfl (by kernel_rfl) (by kernel_rfl) (by rw [il_length]; exact infoS) (il_one _ _)) ?_
    exact Obs.nil
  replace hr_b0 := rangeAt_grown hr_b0 hD.gr
  replace hr_b1 := rangeAt_grown hr_b1 hD.gr
  replace hr_b3 := rangeAt_grown hr_b3 hD.gr
  replace hr_b4 := rangeAt_grown hr_b4 hD.gr
  replace hr_b5 := rangeAt_grown hr_b5 hD.gr
  replace hr_b6 := rangeAt_grown hr_b6 hD.gr
  replace hr_b7 := rangeAt_grown hr_b7 hD.gr
  replace ht_b2 := there_grown ht_b2 hD.gr
  replace ht_b4 := there_grown ht_b4 hD.gr
  replace ht_b5 := there_grown ht_b5 hD.gr
  replace ht_b6 := there_grown ht_b6 hD.gr
  replace ht_b7 := there_grown ht_b7 hD.gr
  obtain ⟨hf_b8, ht_b8⟩ := hD.nw 2 _ _ rfl
  have hr_b8 : w10.rangeAt (β 2) 0 (il 16 (d16 (rt (((u) % p) * (inv ((v) % p)) % p) (1)))) := hD.rg 3 2 2 (fun _ => il 16 (d16 (rt (((u) % p) * (inv ((v) % p)) % p) (1)))) rfl
  replace hf_b8 := Nat.le_trans hW.2.2 hf_b8
  replace hW := grown_trans hW hD.gr
  clear hD
  simp only [finAct, putAll, valsFrom, Plan.value, Act.put, List.setIfInBounds_toArray, List.set_cons_zero, List.set_cons_succ]
  replace hGl := hGl0.grown hW
  generalize β (0 + 1 + 1) = b8 at *
  repeat ((fail_if_success (with_reducible show Code.wp _ (Code.region _ _ _) _ _ _)); go_step)
  refine wp_plain_fin [.val (sn (rt (((u) % p) * (inv ((v) % p)) % p) (1))), .val (bv (rt (((u) % p) * (inv ((v) % p)) % p) (1))), .fin, .imm (.bool true)] (b2) 0 (fun _ => bl (rt (((u) % p) * (inv ((v) % p)) % p) (1))) (by kernel_rfl) (fun β => ?_) (fun β w11 hD => ?_)
  · refine Obs.cons (Ob.load (b8) 0 (il 16 (d16 (rt (((u) % p) * (inv ((v) % p)) % p) (1)))) rfl rfl (by kernel_rfl) hr_b8 Tryd.underlying45 rfl (by rw [il_length]; exact infoS)) ?_
    refine Obs.cons (Ob.call 38 #[sn (rt (((u) % p) * (inv ((v) % p)) % p) (1))] rfl (fun w => by kernel_rfl) (fun w hg => Bytes_r (rt (((u) % p) * (inv ((v) % p)) % p) (1)) w)) ?_
    refine Obs.cons (Ob.fin rfl (by rw [bl_length]; exact ht_b2) rfl (by kernel_rfl) (by kernel_rfl) (by rw [bl_length]; exact info32) (bl_one _)) ?_
    refine Obs.cons (Ob.imm rfl (fun w => by kernel_rfl)) ?_
    exact Obs.nil
  replace hr_b0 := rangeAt_grown hr_b0 hD.gr
  replace hr_b1 := rangeAt_grown hr_b1 hD.gr
  replace hr_b3 := rangeAt_grown hr_b3 hD.gr
  replace hr_b4 := rangeAt_grown hr_b4 hD.gr
  replace hr_b5 := rangeAt_grown hr_b5 hD.gr
  replace hr_b6 := rangeAt_grown hr_b6 hD.gr
  replace hr_b7 := rangeAt_grown hr_b7 hD.gr
  replace hr_b8 := rangeAt_grown hr_b8 hD.gr
  replace ht_b2 := there_grown ht_b2 hD.gr
  replace ht_b4 := there_grown ht_b4 hD.gr
  replace ht_b5 := there_grown ht_b5 hD.gr
  replace ht_b6 := there_grown ht_b6 hD.gr
  replace ht_b7 := there_grown ht_b7 hD.gr
  replace ht_b8 := there_grown ht_b8 hD.gr
  replace hW := grown_trans hW hD.gr
  clear hD
  simp only [finAct, putAll, valsFrom, Plan.value, Act.put, List.setIfInBounds_toArray, List.set_cons_zero, List.set_cons_succ]
  replace hGl := hGl0.grown hW
  have hs11 := World.rangeAt_setCells_same w11 (b2) 0 (bl (rt (((u) % p) * (inv ((v) % p)) % p) (1))) (by rw [bl_length]; exact ht_b2)
  replace hW := grown_setCells hf_b2 (bl (rt (((u) % p) * (inv ((v) % p)) % p) (1))) 0 hW
  generalize w11.setCells (b2) 0 (bl (rt (((u) % p) * (inv ((v) % p)) % p) (1))) = w11s at *
  repeat go_step
  refine bodyPost_ret (v := .tuple #[bv (rt (((u) % p) * (inv ((v) % p)) % p) (1)), .bool true]) (result_cell_tmp Tryd.results36 _ _ (b2) _ (.bool true) ?hp ?hv hs11 Tryd.underlying23 rfl (by rw [bl_length]; exact info32)) ?hd ?_
  case hp => rfl
  case hv => rfl
  case hd => rfl
  exact ⟨rfl, hW⟩

theorem quot_eq (u v : Nat) : (u % p) * (inv (v % p)) % p = u * inv v % p := by rw [inv_mod, Nat.mod_mul_mod]
theorem leg_one {q : Nat} (h : leg q = 1) : hp q = 1 := by
  unfold leg at h
  by_cases h0 : hp q = 0
  · rw [if_pos h0] at h; cases h
  · rw [if_neg h0] at h
    by_cases h1 : hp q = 1
    · exact h1
    · rw [if_neg h1] at h; cases h
theorem SqrtR_yes (u v : Nat) (hu : u < S256) (hv : v < S256) (h : rok u v) (w : World) (hGl0 : Gp w) : Calls Tryd.prog 36 #[bv u, bv v] w fun ex w' => ex = .returned (.tuple #[bv (rt u v), .bool true]) ∧ Grown w w' := by
  by_cases h0 : u % p = 0
  · rw [rt_null h0]; exact SqrtR_0 u v hu hv h0 w hGl0
  · by_cases h1 : v % p = 0
    · exact absurd h (rok_no h0 h1)
    · have hl : leg ((u % p) * (inv (v % p)) % p) = 1 := by rw [quot_eq]; exact (leg_quot h0 h1).2 h
      have hq := leg_one hl
      have hR : RootOf ((u % p) * (inv (v % p)) % p) 1 (rt ((u % p) * (inv (v % p)) % p) 1) := rt_root2 (.inr (by rw [Nat.mul_one]; exact hq))
      have hR2 : RootOf u v (rt ((u % p) * (inv (v % p)) % p) 1) := root_ratio h0 h1 (by rw [← quot_eq]; exact hR)
      rw [rt_eq hR2]
      exact SqrtR_3 u v hu hv h0 h1 hl hq w hGl0
theorem SqrtR_no (u v : Nat) (hu : u < S256) (hv : v < S256) (h : ¬ rok u v) (w : World) (hGl0 : Gp w) : Calls Tryd.prog 36 #[bv u, bv v] w fun ex w' => ex = .returned (.tuple #[bv 0, .bool false]) ∧ Grown w w' := by
  have h0 : ¬ u % p = 0 := fun e => h (.inl e)
  by_cases h1 : v % p = 0
  · exact SqrtR_1 u v hu hv h0 h1 w hGl0
  · exact SqrtR_2 u v hu hv h0 h1 (by rw [quot_eq]; exact fun e => h ((leg_quot h0 h1).1 e)) w hGl0
set_option maxRecDepth 100000 in
set_option maxHeartbeats 4000000 in
theorem LegendreR_raw (a : Nat) (ha : a < S256) (w : World) (hGl0 : Gp w) : Calls Tryd.prog 37 #[bv a] w fun e w' => e = .returned (.int .i64 (leg (a % p))) ∧ Grown w w' := by
  have hW := Grown.refl w
  have hGl := hGl0
  go_enter Tryd.func37, Tryd.ntmps37
  repeat ((fail_if_success (with_reducible show Code.wp _ (Code.region _ _ _) _ _ _)); go_step)
  refine wp_plain [.box 23 (bl (a)), .imm (.int .i64 (0))] (by kernel_rfl) (fun β => ?_) (fun β w1 hD => ?_)
  · refine Obs.cons (Ob.box rfl rfl (by kernel_rfl)) ?_
    refine Obs.cons (Ob.imm rfl (fun w => by kernel_rfl)) ?_
    exact Obs.nil
  obtain ⟨hf_b0, hr_b0⟩ := hD.bx 0 _ _ rfl
  replace hf_b0 := Nat.le_trans hW.2.2 hf_b0
  replace hW := grown_trans hW hD.gr
  clear hD
  simp only [finAct, putAll, valsFrom, Plan.value, Act.put, List.setIfInBounds_toArray, List.set_cons_zero, List.set_cons_succ]
  replace hGl := hGl0.grown hW
  generalize β 0 = b0 at *
  repeat ((fail_if_success (with_reducible show Code.wp _ (Code.region _ _ _) _ _ _)); go_step)
  refine wp_plain [.val (bv (a)), .val (sn ((a) % p)), .new 45 16, .put 2 2 (fun _ => il 16 (d16 ((a) % p)))] (by kernel_rfl) (fun β => ?_) (fun β w2 hD => ?_)
  · refine Obs.cons (Ob.load (b0) 0 (bl (a)) rfl rfl (by kernel_rfl) hr_b0 Tryd.underlying23 rfl (by rw [bl_length]; exact info32)) ?_
    refine Obs.cons (Ob.call 62 #[bv (a)] rfl (fun w => by kernel_rfl) (fun w hg => From_r (a) ha w (hGl.grown hg))) ?_
    refine Obs.cons (Ob.new _ rfl rfl zeroS (by simp [il_length])) ?_
    refine Obs.cons (Ob.put 45 rfl rfl rfl (by kernel_rfl) (by kernel_rfl) (by rw [il_length]; exact infoS) (il_one _ _)) ?_
    exact Obs.nil
  replace hr_b0 := rangeAt_grown hr_b0 hD.gr
  obtain ⟨hf_b1, ht_b1⟩ := hD.nw 2 _ _ rfl
  have hr_b1 : w2.rangeAt (β 2) 0 (il 16 (d16 ((a) % p))) := hD.rg 3 2 2 (fun _ => il 16 (d16 ((a) % p))) rfl
  replace hf_b1 := Nat.le_trans hW.2.2 hf_b1
  replace hW := grown_trans hW hD.gr
  clear hD
  simp only [finAct, putAll, valsFrom, Plan.value, Act.put, List.setIfInBounds_toArray, List.set_cons_zero, List.set_cons_succ]
  replace hGl := hGl0.grown hW
  generalize β (0 + 1 + 1) = b1 at *
  repeat ((fail_if_success (with_reducible show Code.wp _ (Code.region _ _ _) _ _ _)); go_step)
  refine wp_plain [.val (sn ((a) % p)), .val (.int .i64 (leg ((a) % p))), .imm (.int .i64 (leg ((a) % p)))] (by kernel_rfl) (fun β => ?_) (fun β w3 hD => ?_)
  · refine Obs.cons (Ob.load (b1) 0 (il 16 (d16 ((a) % p))) rfl rfl (by kernel_rfl) hr_b1 Tryd.underlying45 rfl (by rw [il_length]; exact infoS)) ?_
    refine Obs.cons (Ob.call 71 #[sn ((a) % p)] rfl (fun w => by kernel_rfl) (fun w hg => Symbol_r ((a) % p) (mod_S _) w (hGl.grown hg))) ?_
    refine Obs.cons (Ob.imm rfl (fun w => by kernel_rfl)) ?_
    exact Obs.nil
  replace hr_b0 := rangeAt_grown hr_b0 hD.gr
  replace hr_b1 := rangeAt_grown hr_b1 hD.gr
  replace ht_b1 := there_grown ht_b1 hD.gr
  replace hW := grown_trans hW hD.gr
  clear hD
  simp only [finAct, putAll, valsFrom, Plan.value, Act.put, List.setIfInBounds_toArray, List.set_cons_zero, List.set_cons_succ]
  replace hGl := hGl0.grown hW
  repeat go_step
  go_ret
  exact ⟨rfl, hW⟩

theorem LegendreR (a : Nat) (ha : a < S256) (w : World) (hGl0 : Gp w) : Calls Tryd.prog 37 #[bv a] w fun e w' => e = .returned (.int .i64 (leg a)) ∧ Grown w w' := by
  have := LegendreR_raw a ha w hGl0
  rw [leg_mod] at this
  exact this
end Go.Proofs.YtkegcilcapnpdaaDoor
