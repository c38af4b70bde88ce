import Derived.Test.YtoimglbjepppmaaDoorZFr
namespace Go.Proofs.YtoimglbjepppmaaDoor
open Go.RowKit Go.Shelf FieldNum

set_option maxRecDepth 100000 in
set_option maxHeartbeats 2000000 in
theorem Fr_zero (u v : Nat) (hu : u < M) (hv : v < M) (h0 : u % p = 0) (hr : rok u v) (w : World) (hGl0 : G4 w) :
    Calls Tryd.prog 4 #[bv u, bv v] w fun e w' => e = .returned (.bool true) ∧ Grown w w' := by
  have hW := Grown.refl w
  have hGl := hGl0
  go_enter Tryd.func4, Tryd.ntmps4
  repeat ((fail_if_success (with_reducible show Code.wp _ (Code.region _ _ _) _ _ _)); go_step)
  refine wp_plain [.box 23 (bl (u)), .box 23 (bl (v)), .imm (.bool false)] (by kernel_rfl) (fun β => ?_) (fun β w1 hD => ?_)
  · refine Obs.cons (Ob.box rfl rfl (by kernel_rfl)) ?_
    refine Obs.cons (Ob.box rfl rfl (by kernel_rfl)) ?_
    refine Obs.cons (Ob.imm rfl (fun w => by kernel_rfl)) ?_
    exact Obs.nil
  obtain ⟨hf_b0, hr_b0⟩ := hD.bx 0 _ _ rfl
  replace hf_b0 := Nat.le_trans hW.2.2 hf_b0
  obtain ⟨hf_b1, hr_b1⟩ := hD.bx 1 _ _ rfl
  replace hf_b1 := Nat.le_trans hW.2.2 hf_b1
  replace hW := grown_trans hW hD.gr
  clear hD
  simp only [finAct, putAll, valsFrom, Plan.value, Act.put, List.setIfInBounds_toArray, List.set_cons_zero, List.set_cons_succ]
  replace hGl := hGl0.grown hW
  generalize β 0 = b0 at *
  generalize β (0 + 1) = b1 at *
  repeat ((fail_if_success (with_reducible show Code.wp _ (Code.region _ _ _) _ _ _)); go_step)
  refine wp_plain [.val (bv (0)), .new 23 32, .put 1 1 (fun _ => bl (0))] (by kernel_rfl) (fun β => ?_) (fun β w2 hD => ?_)
  · refine Obs.cons (Ob.call 9 #[.int .u8 (0)] rfl (fun w => by kernel_rfl) (fun w hg => number_nat 0 (by decide) 0 rfl w)) ?_
    refine Obs.cons (Ob.new _ rfl rfl zero32.1 (by simp [bl_length])) ?_
    refine Obs.cons (Ob.put 23 rfl rfl rfl (by kernel_rfl) (by kernel_rfl) (by rw [bl_length]; exact info32) (bl_one _)) ?_
    exact Obs.nil
  replace hr_b0 := rangeAt_grown hr_b0 hD.gr
  replace hr_b1 := rangeAt_grown hr_b1 hD.gr
  obtain ⟨hf_b2, ht_b2⟩ := hD.nw 1 _ _ rfl
  have hr_b2 : w2.rangeAt (β 1) 0 (bl (0)) := hD.rg 2 1 1 (fun _ => bl (0)) rfl
  replace hf_b2 := Nat.le_trans hW.2.2 hf_b2
  replace hW := grown_trans hW hD.gr
  clear hD
  simp only [finAct, putAll, valsFrom, Plan.value, Act.put, List.setIfInBounds_toArray, List.set_cons_zero, List.set_cons_succ]
  replace hGl := hGl0.grown hW
  generalize β (0 + 1) = b2 at *
  repeat ((fail_if_success (with_reducible show Code.wp _ (Code.region _ _ _) _ _ _)); go_step)
  refine wp_plain [.val (bv (1)), .new 23 32, .put 1 1 (fun _ => bl (1))] (by kernel_rfl) (fun β => ?_) (fun β w3 hD => ?_)
  · refine Obs.cons (Ob.call 9 #[.int .u8 (1)] rfl (fun w => by kernel_rfl) (fun w hg => number_nat 1 (by decide) 1 rfl w)) ?_
    refine Obs.cons (Ob.new _ rfl rfl zero32.1 (by simp [bl_length])) ?_
    refine Obs.cons (Ob.put 23 rfl rfl rfl (by kernel_rfl) (by kernel_rfl) (by rw [bl_length]; exact info32) (bl_one _)) ?_
    exact Obs.nil
  replace hr_b0 := rangeAt_grown hr_b0 hD.gr
  replace hr_b1 := rangeAt_grown hr_b1 hD.gr
  replace hr_b2 := rangeAt_grown hr_b2 hD.gr
  replace ht_b2 := there_grown ht_b2 hD.gr
  obtain ⟨hf_b3, ht_b3⟩ := hD.nw 1 _ _ rfl
  have hr_b3 : w3.rangeAt (β 1) 0 (bl (1)) := hD.rg 2 1 1 (fun _ => bl (1)) rfl
  replace hf_b3 := Nat.le_trans hW.2.2 hf_b3
  replace hW := grown_trans hW hD.gr
  clear hD
  simp only [finAct, putAll, valsFrom, Plan.value, Act.put, List.setIfInBounds_toArray, List.set_cons_zero, List.set_cons_succ]
  replace hGl := hGl0.grown hW
  generalize β (0 + 1) = b3 at *
  repeat ((fail_if_success (with_reducible show Code.wp _ (Code.region _ _ _) _ _ _)); go_step)
  refine wp_plain [.val (bv (u)), .val (bv (v)), .val (.tuple #[bv (rt (u) (v)), .bool true]), .imm (.tuple #[bv (rt (u) (v)), .bool true]), .imm (bv (rt (u) (v))), .imm (.bool true), .new 23 32, .put 6 6 (fun _ => bl (rt (u) (v))), .imm (.bool true)] (by kernel_rfl) (fun β => ?_) (fun β w4 hD => ?_)
  · refine Obs.cons (Ob.load (b0) 0 (bl (u)) rfl rfl (by kernel_rfl) hr_b0 Tryd.underlying23 rfl (by rw [bl_length]; exact info32)) ?_
    refine Obs.cons (Ob.load (b1) 0 (bl (v)) rfl rfl (by kernel_rfl) hr_b1 Tryd.underlying23 rfl (by rw [bl_length]; exact info32)) ?_
    refine Obs.cons (Ob.call 16 #[bv (u), bv (v)] rfl (fun w => by kernel_rfl) (fun w hg => SqrtRatio_yes (u) (v) hu hv (hr) w (hGl.grown hg).g1)) ?_
    refine Obs.cons (Ob.imm rfl (fun w => by kernel_rfl)) ?_
    refine Obs.cons (Ob.imm rfl (fun w => by kernel_rfl)) ?_
    refine Obs.cons (Ob.imm rfl (fun w => by kernel_rfl)) ?_
    refine Obs.cons (Ob.new _ rfl rfl zero32.1 (by simp [bl_length])) ?_
    refine Obs.cons (Ob.put 23 rfl rfl rfl (by kernel_rfl) (by kernel_rfl) (by rw [bl_length]; exact info32) (bl_one _)) ?_
    refine Obs.cons (Ob.imm rfl (fun w => by kernel_rfl)) ?_
    exact Obs.nil
  replace hr_b0 := rangeAt_grown hr_b0 hD.gr
  replace hr_b1 := rangeAt_grown hr_b1 hD.gr
  replace hr_b2 := rangeAt_grown hr_b2 hD.gr
  replace hr_b3 := rangeAt_grown hr_b3 hD.gr
  replace ht_b2 := there_grown ht_b2 hD.gr
  replace ht_b3 := there_grown ht_b3 hD.gr
  obtain ⟨hf_b4, ht_b4⟩ := hD.nw 6 _ _ rfl
  have hr_b4 : w4.rangeAt (β 6) 0 (bl (rt (u) (v))) := hD.rg 7 6 6 (fun _ => bl (rt (u) (v))) rfl
  replace hf_b4 := Nat.le_trans hW.2.2 hf_b4
  replace hW := grown_trans hW hD.gr
  clear hD
  simp only [finAct, putAll, valsFrom, Plan.value, Act.put, List.setIfInBounds_toArray, List.set_cons_zero, List.set_cons_succ]
  replace hGl := hGl0.grown hW
  generalize β (0 + 1 + 1 + 1 + 1 + 1 + 1) = b4 at *
  repeat ((fail_if_success (with_reducible show Code.wp _ (Code.region _ _ _) _ _ _)); go_step)
  refine wp_plain [.imm (.bool true), .imm (.bool false), .imm (.bool false), .skip, .skip, .skip, .imm (.bool false)] (by kernel_rfl) (fun β => ?_) (fun β w5 hD => ?_)
  · refine Obs.cons (Ob.imm rfl (fun w => by kernel_rfl)) ?_
    refine Obs.cons (Ob.imm rfl (fun w => by kernel_rfl)) ?_
    refine Obs.cons (Ob.imm rfl (fun w => by kernel_rfl)) ?_
    refine Obs.cons (Ob.skip (by kernel_rfl)) ?_
    refine Obs.cons (Ob.skip (by kernel_rfl)) ?_
    refine Obs.cons (Ob.skip (by kernel_rfl)) ?_
    refine Obs.cons (Ob.imm rfl (fun w => by kernel_rfl)) ?_
    exact Obs.nil
  replace hr_b0 := rangeAt_grown hr_b0 hD.gr
  replace hr_b1 := rangeAt_grown hr_b1 hD.gr
  replace hr_b2 := rangeAt_grown hr_b2 hD.gr
  replace hr_b3 := rangeAt_grown hr_b3 hD.gr
  replace hr_b4 := rangeAt_grown hr_b4 hD.gr
  replace ht_b2 := there_grown ht_b2 hD.gr
  replace ht_b3 := there_grown ht_b3 hD.gr
  replace ht_b4 := there_grown ht_b4 hD.gr
  replace hW := grown_trans hW hD.gr
  clear hD
  simp only [finAct, putAll, valsFrom, Plan.value, Act.put, List.setIfInBounds_toArray, List.set_cons_zero, List.set_cons_succ]
  replace hGl := hGl0.grown hW
  repeat ((fail_if_success (with_reducible show Code.wp _ (Code.region _ _ _) _ _ _)); go_step)
  replace hr_b0 := rangeAt_grown hr_b0 (gdrew w5)
  replace hr_b1 := rangeAt_grown hr_b1 (gdrew w5)
  replace hr_b2 := rangeAt_grown hr_b2 (gdrew w5)
  replace hr_b3 := rangeAt_grown hr_b3 (gdrew w5)
  replace hr_b4 := rangeAt_grown hr_b4 (gdrew w5)
  replace ht_b2 := there_grown ht_b2 (gdrew w5)
  replace ht_b3 := there_grown ht_b3 (gdrew w5)
  replace ht_b4 := there_grown ht_b4 (gdrew w5)
  replace hW := grown_trans hW (gdrew w5)
  replace hGl := hGl0.grown hW
  refine wp_loose [.val (bv (u)), .val (bv (fmul (u) (u))), .val (bv (1)), .val (.tuple #[bv (rt (fmul (u) (u)) (1)), .bool true]), .imm (.tuple #[bv (rt (fmul (u) (u)) (1)), .bool true]), .imm (bv (rt (fmul (u) (u)) (1))), .imm (.bool true), .new 23 32, .put 7 7 (fun _ => bl (rt (fmul (u) (u)) (1))), .imm (.bool true)] (by kernel_rfl) (by kernel_rfl) (fun β => ?_) (fun β w6 hD => ?_)
  · refine Obs.cons (Ob.load (b0) 0 (bl (u)) rfl rfl (by kernel_rfl) hr_b0 Tryd.underlying23 rfl (by rw [bl_length]; exact info32)) ?_
    refine Obs.cons (Ob.call 17 #[bv (u)] rfl (fun w => by kernel_rfl) (fun w hg => Square_f (u) hu w)) ?_
    refine Obs.cons (Ob.load (b3) 0 (bl (1)) rfl rfl (by kernel_rfl) hr_b3 Tryd.underlying23 rfl (by rw [bl_length]; exact info32)) ?_
    refine Obs.cons (Ob.call 16 #[bv (fmul (u) (u)), bv (1)] rfl (fun w => by kernel_rfl) (fun w hg => SqrtRatio_yes (fmul (u) (u)) (1) (fmul_lt _ _) (by decide) (rok_sq u) w (hGl.grown hg).g1)) ?_
    refine Obs.cons (Ob.imm rfl (fun w => by kernel_rfl)) ?_
    refine Obs.cons (Ob.imm rfl (fun w => by kernel_rfl)) ?_
    refine Obs.cons (Ob.imm rfl (fun w => by kernel_rfl)) ?_
    refine Obs.cons (Ob.new _ rfl rfl zero32.1 (by simp [bl_length])) ?_
    refine Obs.cons (Ob.put 23 rfl rfl rfl (by kernel_rfl) (by kernel_rfl) (by rw [bl_length]; exact info32) (bl_one _)) ?_
    refine Obs.cons (Ob.imm rfl (fun w => by kernel_rfl)) ?_
    exact Obs.nil
  replace hr_b0 := rangeAt_grown hr_b0 hD.gr
  replace hr_b1 := rangeAt_grown hr_b1 hD.gr
  replace hr_b2 := rangeAt_grown hr_b2 hD.gr
  replace hr_b3 := rangeAt_grown hr_b3 hD.gr
  replace hr_b4 := rangeAt_grown hr_b4 hD.gr
  replace ht_b2 := there_grown ht_b2 hD.gr
  replace ht_b3 := there_grown ht_b3 hD.gr
  replace ht_b4 := there_grown ht_b4 hD.gr
  obtain ⟨hf_b5, ht_b5⟩ := hD.nw 7 _ _ rfl
  have hr_b5 : w6.rangeAt (β 7) 0 (bl (rt (fmul (u) (u)) (1))) := hD.rg 8 7 7 (fun _ => bl (rt (fmul (u) (u)) (1))) rfl
  replace hf_b5 := Nat.le_trans hW.2.2 hf_b5
  replace hW := grown_trans hW hD.gr
  clear hD
  simp only [finAct, putAll, valsFrom, Plan.value, Act.put, List.setIfInBounds_toArray, List.set_cons_zero, List.set_cons_succ]
  replace hGl := hGl0.grown hW
  generalize β (0 + 1 + 1 + 1 + 1 + 1 + 1 + 1) = b5 at *
  repeat ((fail_if_success (with_reducible show Code.wp _ (Code.region _ _ _) _ _ _)); go_step)
  replace hr_b0 := rangeAt_grown hr_b0 (gdrew w6)
  replace hr_b1 := rangeAt_grown hr_b1 (gdrew w6)
  replace hr_b2 := rangeAt_grown hr_b2 (gdrew w6)
  replace hr_b3 := rangeAt_grown hr_b3 (gdrew w6)
  replace hr_b4 := rangeAt_grown hr_b4 (gdrew w6)
  replace hr_b5 := rangeAt_grown hr_b5 (gdrew w6)
  replace ht_b2 := there_grown ht_b2 (gdrew w6)
  replace ht_b3 := there_grown ht_b3 (gdrew w6)
  replace ht_b4 := there_grown ht_b4 (gdrew w6)
  replace ht_b5 := there_grown ht_b5 (gdrew w6)
  replace hW := grown_trans hW (gdrew w6)
  replace hGl := hGl0.grown hW
  refine wp_loose [.imm (.bool true), .imm (.bool false), .imm (.bool false), .val (bv (rt (fmul (u) (u)) (1))), .val (bv (fmul (rt (fmul (u) (u)) (1)) (rt (fmul (u) (u)) (1)))), .val (bv (u)), .val (bv (fmul (u) (u))), .imm (.bool false), .imm (.bool false), .imm (.bool false), .imm (.pointer (some ⟨b5, 0, none⟩)), .val (.int .u8 ((rt (fmul (u) (u)) (1)) % 256 : Nat)), .imm (.int .u8 (((rt (fmul (u) (u)) (1)) % 256) % 2 : Nat)), .imm (.bool false), .imm (.bool false)] (by kernel_rfl) (by kernel_rfl) (fun β => ?_) (fun β w7 hD => ?_)
  · refine Obs.cons (Ob.imm rfl (fun w => by kernel_rfl)) ?_
    refine Obs.cons (Ob.imm rfl (fun w => by kernel_rfl)) ?_
    refine Obs.cons (Ob.imm rfl (fun w => by kernel_rfl)) ?_
    refine Obs.cons (Ob.load (b5) 0 (bl (rt (fmul (u) (u)) (1))) (by kernel_rfl) rfl (by kernel_rfl) hr_b5 Tryd.underlying23 rfl (by rw [bl_length]; exact info32)) ?_
    refine Obs.cons (Ob.call 17 #[bv (rt (fmul (u) (u)) (1))] (by kernel_rfl) (fun w => by kernel_rfl) (fun w hg => Square_f (rt (fmul (u) (u)) (1)) (rt_M _ _) w)) ?_
    refine Obs.cons (Ob.load (b0) 0 (bl (u)) (by kernel_rfl) rfl (by kernel_rfl) hr_b0 Tryd.underlying23 rfl (by rw [bl_length]; exact info32)) ?_
    refine Obs.cons (Ob.call 17 #[bv (u)] (by kernel_rfl) (fun w => by kernel_rfl) (fun w hg => Square_f (u) hu w)) ?_
    refine Obs.cons (Ob.imm (by kernel_rfl) (fun w => exec_neq_same rfl (fmul (rt (fmul (u) (u)) (1)) (rt (fmul (u) (u)) (1))) (fmul (u) (u)) (by kernel_rfl) (by kernel_rfl) (fmul_lt _ _) (fmul_lt _ _) (rt_sq1 u) w)) ?_
    refine Obs.cons (Ob.imm rfl (fun w => by kernel_rfl)) ?_
    refine Obs.cons (Ob.imm rfl (fun w => by kernel_rfl)) ?_
    refine Obs.cons (Ob.imm (by kernel_rfl) (fun w => exec_idx 0 (by decide) rfl (by kernel_rfl) (by kernel_rfl))) ?_
    refine Obs.cons (Ob.load1 (b5) 0 (by kernel_rfl) rfl (by kernel_rfl) (block_lt_of_cell (cell_low hr_b5)) (cell_low hr_b5) (fun w h => run_load8 w h)) ?_
    refine Obs.cons (Ob.imm (by kernel_rfl) (fun w => exec_rem8' ((rt (fmul (u) (u)) (1)) % 256) rfl (by kernel_rfl) (by kernel_rfl) (Nat.mod_lt _ (by decide)))) ?_
    refine Obs.cons (Ob.imm (by kernel_rfl) (fun w => exec_eq8 (((rt (fmul (u) (u)) (1)) % 256) % 2) (1) rfl (by kernel_rfl) (by kernel_rfl) false (decide_eq_false (rt_even' (rok_sq u))))) ?_
    refine Obs.cons (Ob.imm rfl (fun w => by kernel_rfl)) ?_
    exact Obs.nil
  replace hr_b0 := rangeAt_grown hr_b0 hD.gr
  replace hr_b1 := rangeAt_grown hr_b1 hD.gr
  replace hr_b2 := rangeAt_grown hr_b2 hD.gr
  replace hr_b3 := rangeAt_grown hr_b3 hD.gr
  replace hr_b4 := rangeAt_grown hr_b4 hD.gr
  replace hr_b5 := rangeAt_grown hr_b5 hD.gr
  replace ht_b2 := there_grown ht_b2 hD.gr
  replace ht_b3 := there_grown ht_b3 hD.gr
  replace ht_b4 := there_grown ht_b4 hD.gr
  replace ht_b5 := there_grown ht_b5 hD.gr
  replace hW := grown_trans hW hD.gr
  clear hD
  simp only [finAct, putAll, valsFrom, Plan.value, Act.put, List.setIfInBounds_toArray, List.set_cons_zero, List.set_cons_succ]
  replace hGl := hGl0.grown hW
  repeat ((fail_if_success (with_reducible show Code.wp _ (Code.region _ _ _) _ _ _)); go_step)
  refine wp_plain [.val (bv (u)), .val (bv (fred (u))), .new 23 32, .put 2 2 (fun _ => bl (fred (u)))] (by kernel_rfl) (fun β => ?_) (fun β w8 hD => ?_)
  · refine Obs.cons (Ob.load (b0) 0 (bl (u)) rfl rfl (by kernel_rfl) hr_b0 Tryd.underlying23 rfl (by rw [bl_length]; exact info32)) ?_
    refine Obs.cons (Ob.call 13 #[bv (u)] rfl (fun w => by kernel_rfl) (fun w hg => Reduce_f (u) hu w)) ?_
    refine Obs.cons (Ob.new _ rfl rfl zero32.1 (by simp [bl_length])) ?_
    refine Obs.cons (Ob.put 23 rfl rfl rfl (by kernel_rfl) (by kernel_rfl) (by rw [bl_length]; exact info32) (bl_one _)) ?_
    exact Obs.nil
  replace hr_b0 := rangeAt_grown hr_b0 hD.gr
  replace hr_b1 := rangeAt_grown hr_b1 hD.gr
  replace hr_b2 := rangeAt_grown hr_b2 hD.gr
  replace hr_b3 := rangeAt_grown hr_b3 hD.gr
  replace hr_b4 := rangeAt_grown hr_b4 hD.gr
  replace hr_b5 := rangeAt_grown hr_b5 hD.gr
  replace ht_b2 := there_grown ht_b2 hD.gr
  replace ht_b3 := there_grown ht_b3 hD.gr
  replace ht_b4 := there_grown ht_b4 hD.gr
  replace ht_b5 := there_grown ht_b5 hD.gr
  obtain ⟨hf_b6, ht_b6⟩ := hD.nw 2 _ _ rfl
  have hr_b6 : w8.rangeAt (β 2) 0 (bl (fred (u))) := hD.rg 3 2 2 (fun _ => bl (fred (u))) rfl
  replace hf_b6 := Nat.le_trans hW.2.2 hf_b6
  replace hW := grown_trans hW hD.gr
  clear hD
  simp only [finAct, putAll, valsFrom, Plan.value, Act.put, List.setIfInBounds_toArray, List.set_cons_zero, List.set_cons_succ]
  replace hGl := hGl0.grown hW
  generalize β (0 + 1 + 1) = b6 at *
  repeat ((fail_if_success (with_reducible show Code.wp _ (Code.region _ _ _) _ _ _)); go_step)
  refine wp_plain [.val (bv (v)), .val (bv (fred (v))), .new 23 32, .put 2 2 (fun _ => bl (fred (v)))] (by kernel_rfl) (fun β => ?_) (fun β w9 hD => ?_)
  · refine Obs.cons (Ob.load (b1) 0 (bl (v)) rfl rfl (by kernel_rfl) hr_b1 Tryd.underlying23 rfl (by rw [bl_length]; exact info32)) ?_
    refine Obs.cons (Ob.call 13 #[bv (v)] rfl (fun w => by kernel_rfl) (fun w hg => Reduce_f (v) hv w)) ?_
    refine Obs.cons (Ob.new _ rfl rfl zero32.1 (by simp [bl_length])) ?_
    refine Obs.cons (Ob.put 23 rfl rfl rfl (by kernel_rfl) (by kernel_rfl) (by rw [bl_length]; exact info32) (bl_one _)) ?_
    exact Obs.nil
  replace hr_b0 := rangeAt_grown hr_b0 hD.gr
  replace hr_b1 := rangeAt_grown hr_b1 hD.gr
  replace hr_b2 := rangeAt_grown hr_b2 hD.gr
  replace hr_b3 := rangeAt_grown hr_b3 hD.gr
  replace hr_b4 := rangeAt_grown hr_b4 hD.gr
  replace hr_b5 := rangeAt_grown hr_b5 hD.gr
  replace hr_b6 := rangeAt_grown hr_b6 hD.gr
  replace ht_b2 := there_grown ht_b2 hD.gr
  replace ht_b3 := there_grown ht_b3 hD.gr
  replace ht_b4 := there_grown ht_b4 hD.gr
  replace ht_b5 := there_grown ht_b5 hD.gr
  replace ht_b6 := there_grown ht_b6 hD.gr
  obtain ⟨hf_b7, ht_b7⟩ := hD.nw 2 _ _ rfl
  have hr_b7 : w9.rangeAt (β 2) 0 (bl (fred (v))) := hD.rg 3 2 2 (fun _ => bl (fred (v))) rfl
  replace hf_b7 := Nat.le_trans hW.2.2 hf_b7
  replace hW := grown_trans hW hD.gr
  clear hD
  simp only [finAct, putAll, valsFrom, Plan.value, Act.put, List.setIfInBounds_toArray, List.set_cons_zero, List.set_cons_succ]
  replace hGl := hGl0.grown hW
  generalize β (0 + 1 + 1) = b7 at *
  repeat ((fail_if_success (with_reducible show Code.wp _ (Code.region _ _ _) _ _ _)); go_step)
  refine wp_plain [.val (bv (fred (u))), .val (bv (0)), .imm (.bool true)] (by kernel_rfl) (fun β => ?_) (fun β w10 hD => ?_)
  · refine Obs.cons (Ob.load (b6) 0 (bl (fred (u))) rfl rfl (by kernel_rfl) hr_b6 Tryd.underlying23 rfl (by rw [bl_length]; exact info32)) ?_
    refine Obs.cons (Ob.load (b2) 0 (bl (0)) rfl rfl (by kernel_rfl) hr_b2 Tryd.underlying23 rfl (by rw [bl_length]; exact info32)) ?_
    refine Obs.cons (Ob.imm rfl (fun w => exec_eql_same rfl (fred (u)) (0) (by kernel_rfl) (by kernel_rfl) (fred_lt _) (by decide) (h0) w)) ?_
    exact Obs.nil
  replace hr_b0 := rangeAt_grown hr_b0 hD.gr
  replace hr_b1 := rangeAt_grown hr_b1 hD.gr
  replace hr_b2 := rangeAt_grown hr_b2 hD.gr
  replace hr_b3 := rangeAt_grown hr_b3 hD.gr
  replace hr_b4 := rangeAt_grown hr_b4 hD.gr
  replace hr_b5 := rangeAt_grown hr_b5 hD.gr
  replace hr_b6 := rangeAt_grown hr_b6 hD.gr
  replace hr_b7 := rangeAt_grown hr_b7 hD.gr
  replace ht_b2 := there_grown ht_b2 hD.gr
  replace ht_b3 := there_grown ht_b3 hD.gr
  replace ht_b4 := there_grown ht_b4 hD.gr
  replace ht_b5 := there_grown ht_b5 hD.gr
  replace ht_b6 := there_grown ht_b6 hD.gr
  replace ht_b7 := there_grown ht_b7 hD.gr
  replace hW := grown_trans hW hD.gr
  clear hD
  simp only [finAct, putAll, valsFrom, Plan.value, Act.put, List.setIfInBounds_toArray, List.set_cons_zero, List.set_cons_succ]
  replace hGl := hGl0.grown hW
  repeat ((fail_if_success (with_reducible show Code.wp _ (Code.region _ _ _) _ _ _)); go_step)
  refine wp_plain [.imm (.bool true), .imm (.bool true), .val (bv (rt (u) (v))), .val (bv (0)), .imm (.bool true), .imm (.bool true), .imm (.bool true)] (by kernel_rfl) (fun β => ?_) (fun β w11 hD => ?_)
  · refine Obs.cons (Ob.imm rfl (fun w => by kernel_rfl)) ?_
    refine Obs.cons (Ob.imm rfl (fun w => by kernel_rfl)) ?_
    refine Obs.cons (Ob.load (b4) 0 (bl (rt (u) (v))) (by kernel_rfl) rfl (by kernel_rfl) hr_b4 Tryd.underlying23 rfl (by rw [bl_length]; exact info32)) ?_
    refine Obs.cons (Ob.load (b2) 0 (bl (0)) (by kernel_rfl) rfl (by kernel_rfl) hr_b2 Tryd.underlying23 rfl (by rw [bl_length]; exact info32)) ?_
    refine Obs.cons (Ob.imm (by kernel_rfl) (fun w => exec_eql_same rfl (rt (u) (v)) (0) (by kernel_rfl) (by kernel_rfl) (rt_M _ _) (by decide) ((rt_root hr).2.2.2 h0) w)) ?_
    refine Obs.cons (Ob.imm rfl (fun w => by kernel_rfl)) ?_
    refine Obs.cons (Ob.imm rfl (fun w => by kernel_rfl)) ?_
    exact Obs.nil
  replace hr_b0 := rangeAt_grown hr_b0 hD.gr
  replace hr_b1 := rangeAt_grown hr_b1 hD.gr
  replace hr_b2 := rangeAt_grown hr_b2 hD.gr
  replace hr_b3 := rangeAt_grown hr_b3 hD.gr
  replace hr_b4 := rangeAt_grown hr_b4 hD.gr
  replace hr_b5 := rangeAt_grown hr_b5 hD.gr
  replace hr_b6 := rangeAt_grown hr_b6 hD.gr
  replace hr_b7 := rangeAt_grown hr_b7 hD.gr
  replace ht_b2 := there_grown ht_b2 hD.gr
  replace ht_b3 := there_grown ht_b3 hD.gr
  replace ht_b4 := there_grown ht_b4 hD.gr
  replace ht_b5 := there_grown ht_b5 hD.gr
  replace ht_b6 := there_grown ht_b6 hD.gr
  replace ht_b7 := there_grown ht_b7 hD.gr
  replace hW := grown_trans hW hD.gr
  clear hD
  simp only [finAct, putAll, valsFrom, Plan.value, Act.put, List.setIfInBounds_toArray, List.set_cons_zero, List.set_cons_succ]
  replace hGl := hGl0.grown hW
  repeat go_step
  go_ret
  exact ⟨rfl, hW⟩

set_option maxRecDepth 100000 in
set_option maxHeartbeats 2000000 in
theorem Fr_none (u v : Nat) (hu : u < M) (hv : v < M) (h0 : ¬ u % p = 0) (h1 : v % p = 0) (hr : ¬ rok u v) (w : World) (hGl0 : G4 w) :
    Calls Tryd.prog 4 #[bv u, bv v] w fun e w' => e = .returned (.bool true) ∧ Grown w w' := by
  have hW := Grown.refl w
  have hGl := hGl0
  go_enter Tryd.func4, Tryd.ntmps4
  repeat ((fail_if_success (with_reducible show Code.wp _ (Code.region _ _ _) _ _ _)); go_step)
  refine wp_plain [.box 23 (bl (u)), .box 23 (bl (v)), .imm (.bool false)] (by kernel_rfl) (fun β => ?_) (fun β w1 hD => ?_)
  · refine Obs.cons (Ob.box rfl rfl (by kernel_rfl)) ?_
    refine Obs.cons (Ob.box rfl rfl (by kernel_rfl)) ?_
    refine Obs.cons (Ob.imm rfl (fun w => by kernel_rfl)) ?_
    exact Obs.nil
  obtain ⟨hf_b0, hr_b0⟩ := hD.bx 0 _ _ rfl
  replace hf_b0 := Nat.le_trans hW.2.2 hf_b0
  obtain ⟨hf_b1, hr_b1⟩ := hD.bx 1 _ _ rfl
  replace hf_b1 := Nat.le_trans hW.2.2 hf_b1
  replace hW := grown_trans hW hD.gr
  clear hD
  simp only [finAct, putAll, valsFrom, Plan.value, Act.put, List.setIfInBounds_toArray, List.set_cons_zero, List.set_cons_succ]
  replace hGl := hGl0.grown hW
  generalize β 0 = b0 at *
  generalize β (0 + 1) = b1 at *
  repeat ((fail_if_success (with_reducible show Code.wp _ (Code.region _ _ _) _ _ _)); go_step)
  refine wp_plain [.val (bv (0)), .new 23 32, .put 1 1 (fun _ => bl (0))] (by kernel_rfl) (fun β => ?_) (fun β w2 hD => ?_)
  · refine Obs.cons (Ob.call 9 #[.int .u8 (0)] rfl (fun w => by kernel_rfl) (fun w hg => number_nat 0 (by decide) 0 rfl w)) ?_
    refine Obs.cons (Ob.new _ rfl rfl zero32.1 (by simp [bl_length])) ?_
    refine Obs.cons (Ob.put 23 rfl rfl rfl (by kernel_rfl) (by kernel_rfl) (by rw [bl_length]; exact info32) (bl_one _)) ?_
    exact Obs.nil
  replace hr_b0 := rangeAt_grown hr_b0 hD.gr
  replace hr_b1 := rangeAt_grown hr_b1 hD.gr
  obtain ⟨hf_b2, ht_b2⟩ := hD.nw 1 _ _ rfl
  have hr_b2 : w2.rangeAt (β 1) 0 (bl (0)) := hD.rg 2 1 1 (fun _ => bl (0)) rfl
  replace hf_b2 := Nat.le_trans hW.2.2 hf_b2
  replace hW := grown_trans hW hD.gr
  clear hD
  simp only [finAct, putAll, valsFrom, Plan.value, Act.put, List.setIfInBounds_toArray, List.set_cons_zero, List.set_cons_succ]
  replace hGl := hGl0.grown hW
  generalize β (0 + 1) = b2 at *
  repeat ((fail_if_success (with_reducible show Code.wp _ (Code.region _ _ _) _ _ _)); go_step)
  refine wp_plain [.val (bv (1)), .new 23 32, .put 1 1 (fun _ => bl (1))] (by kernel_rfl) (fun β => ?_) (fun β w3 hD => ?_)
  · refine Obs.cons (Ob.call 9 #[.int .u8 (1)] rfl (fun w => by kernel_rfl) (fun w hg => number_nat 1 (by decide) 1 rfl w)) ?_
    refine Obs.cons (Ob.new _ rfl rfl zero32.1 (by simp [bl_length])) ?_
    refine Obs.cons (Ob.put 23 rfl rfl rfl (by kernel_rfl) (by kernel_rfl) (by rw [bl_length]; exact info32) (bl_one _)) ?_
    exact Obs.nil
  replace hr_b0 := rangeAt_grown hr_b0 hD.gr
  replace hr_b1 := rangeAt_grown hr_b1 hD.gr
  replace hr_b2 := rangeAt_grown hr_b2 hD.gr
  replace ht_b2 := there_grown ht_b2 hD.gr
  obtain ⟨hf_b3, ht_b3⟩ := hD.nw 1 _ _ rfl
  have hr_b3 : w3.rangeAt (β 1) 0 (bl (1)) := hD.rg 2 1 1 (fun _ => bl (1)) rfl
  replace hf_b3 := Nat.le_trans hW.2.2 hf_b3
  replace hW := grown_trans hW hD.gr
  clear hD
  simp only [finAct, putAll, valsFrom, Plan.value, Act.put, List.setIfInBounds_toArray, List.set_cons_zero, List.set_cons_succ]
  replace hGl := hGl0.grown hW
  generalize β (0 + 1) = b3 at *
  repeat ((fail_if_success (with_reducible show Code.wp _ (Code.region _ _ _) _ _ _)); go_step)
  refine wp_plain [.val (bv (u)), .val (bv (v)), .val (.tuple #[bv (0), .bool false]), .imm (.tuple #[bv (0), .bool false]), .imm (bv (0)), .imm (.bool false), .new 23 32, .put 6 6 (fun _ => bl (0)), .imm (.bool false)] (by kernel_rfl) (fun β => ?_) (fun β w4 hD => ?_)
  · refine Obs.cons (Ob.load (b0) 0 (bl (u)) rfl rfl (by kernel_rfl) hr_b0 Tryd.underlying23 rfl (by rw [bl_length]; exact info32)) ?_
    refine Obs.cons (Ob.load (b1) 0 (bl (v)) rfl rfl (by kernel_rfl) hr_b1 Tryd.underlying23 rfl (by rw [bl_length]; exact info32)) ?_
    refine Obs.cons (Ob.call 16 #[bv (u), bv (v)] rfl (fun w => by kernel_rfl) (fun w hg => SqrtRatio_no (u) (v) hu hv (hr) w (hGl.grown hg).g1)) ?_
    refine Obs.cons (Ob.imm rfl (fun w => by kernel_rfl)) ?_
    refine Obs.cons (Ob.imm rfl (fun w => by kernel_rfl)) ?_
    refine Obs.cons (Ob.imm rfl (fun w => by kernel_rfl)) ?_
    refine Obs.cons (Ob.new _ rfl rfl zero32.1 (by simp [bl_length])) ?_
    refine Obs.cons (Ob.put 23 rfl rfl rfl (by kernel_rfl) (by kernel_rfl) (by rw [bl_length]; exact info32) (bl_one _)) ?_
    refine Obs.cons (Ob.imm rfl (fun w => by kernel_rfl)) ?_
    exact Obs.nil
  replace hr_b0 := rangeAt_grown hr_b0 hD.gr
  replace hr_b1 := rangeAt_grown hr_b1 hD.gr
  replace hr_b2 := rangeAt_grown hr_b2 hD.gr
  replace hr_b3 := rangeAt_grown hr_b3 hD.gr
  replace ht_b2 := there_grown ht_b2 hD.gr
  replace ht_b3 := there_grown ht_b3 hD.gr
  obtain ⟨hf_b4, ht_b4⟩ := hD.nw 6 _ _ rfl
  have hr_b4 : w4.rangeAt (β 6) 0 (bl (0)) := hD.rg 7 6 6 (fun _ => bl (0)) rfl
  replace hf_b4 := Nat.le_trans hW.2.2 hf_b4
  replace hW := grown_trans hW hD.gr
  clear hD
  simp only [finAct, putAll, valsFrom, Plan.value, Act.put, List.setIfInBounds_toArray, List.set_cons_zero, List.set_cons_succ]
  replace hGl := hGl0.grown hW
  generalize β (0 + 1 + 1 + 1 + 1 + 1 + 1) = b4 at *
  repeat ((fail_if_success (with_reducible show Code.wp _ (Code.region _ _ _) _ _ _)); go_step)
  refine wp_plain [.imm (.bool false), .imm (.bool true), .imm (.bool true), .val (bv (0)), .val (bv (0)), .imm (.bool false), .imm (.bool false)] (by kernel_rfl) (fun β => ?_) (fun β w5 hD => ?_)
  · refine Obs.cons (Ob.imm rfl (fun w => by kernel_rfl)) ?_
    refine Obs.cons (Ob.imm rfl (fun w => by kernel_rfl)) ?_
    refine Obs.cons (Ob.imm rfl (fun w => by kernel_rfl)) ?_
    refine Obs.cons (Ob.load (b4) 0 (bl (0)) (by kernel_rfl) rfl (by kernel_rfl) hr_b4 Tryd.underlying23 rfl (by rw [bl_length]; exact info32)) ?_
    refine Obs.cons (Ob.load (b2) 0 (bl (0)) (by kernel_rfl) rfl (by kernel_rfl) hr_b2 Tryd.underlying23 rfl (by rw [bl_length]; exact info32)) ?_
    refine Obs.cons (Ob.imm (by kernel_rfl) (fun w => exec_neq_same rfl (0) (0) (by kernel_rfl) (by kernel_rfl) (by decide) (by decide) (rfl) w)) ?_
    refine Obs.cons (Ob.imm rfl (fun w => by kernel_rfl)) ?_
    exact Obs.nil
  replace hr_b0 := rangeAt_grown hr_b0 hD.gr
  replace hr_b1 := rangeAt_grown hr_b1 hD.gr
  replace hr_b2 := rangeAt_grown hr_b2 hD.gr
  replace hr_b3 := rangeAt_grown hr_b3 hD.gr
  replace hr_b4 := rangeAt_grown hr_b4 hD.gr
  replace ht_b2 := there_grown ht_b2 hD.gr
  replace ht_b3 := there_grown ht_b3 hD.gr
  replace ht_b4 := there_grown ht_b4 hD.gr
  replace hW := grown_trans hW hD.gr
  clear hD
  simp only [finAct, putAll, valsFrom, Plan.value, Act.put, List.setIfInBounds_toArray, List.set_cons_zero, List.set_cons_succ]
  replace hGl := hGl0.grown hW
  repeat ((fail_if_success (with_reducible show Code.wp _ (Code.region _ _ _) _ _ _)); go_step)
  replace hr_b0 := rangeAt_grown hr_b0 (gdrew w5)
  replace hr_b1 := rangeAt_grown hr_b1 (gdrew w5)
  replace hr_b2 := rangeAt_grown hr_b2 (gdrew w5)
  replace hr_b3 := rangeAt_grown hr_b3 (gdrew w5)
  replace hr_b4 := rangeAt_grown hr_b4 (gdrew w5)
  replace ht_b2 := there_grown ht_b2 (gdrew w5)
  replace ht_b3 := there_grown ht_b3 (gdrew w5)
  replace ht_b4 := there_grown ht_b4 (gdrew w5)
  replace hW := grown_trans hW (gdrew w5)
  replace hGl := hGl0.grown hW
  refine wp_loose [.val (bv (u)), .val (bv (fmul (u) (u))), .val (bv (1)), .val (.tuple #[bv (rt (fmul (u) (u)) (1)), .bool true]), .imm (.tuple #[bv (rt (fmul (u) (u)) (1)), .bool true]), .imm (bv (rt (fmul (u) (u)) (1))), .imm (.bool true), .new 23 32, .put 7 7 (fun _ => bl (rt (fmul (u) (u)) (1))), .imm (.bool true)] (by kernel_rfl) (by kernel_rfl) (fun β => ?_) (fun β w6 hD => ?_)
  · refine Obs.cons (Ob.load (b0) 0 (bl (u)) rfl rfl (by kernel_rfl) hr_b0 Tryd.underlying23 rfl (by rw [bl_length]; exact info32)) ?_
    refine Obs.cons (Ob.call 17 #[bv (u)] rfl (fun w => by kernel_rfl) (fun w hg => Square_f (u) hu w)) ?_
    refine Obs.cons (Ob.load (b3) 0 (bl (1)) rfl rfl (by kernel_rfl) hr_b3 Tryd.underlying23 rfl (by rw [bl_length]; exact info32)) ?_
    refine Obs.cons (Ob.call 16 #[bv (fmul (u) (u)), bv (1)] rfl (fun w => by kernel_rfl) (fun w hg => SqrtRatio_yes (fmul (u) (u)) (1) (fmul_lt _ _) (by decide) (rok_sq u) w (hGl.grown hg).g1)) ?_
    refine Obs.cons (Ob.imm rfl (fun w => by kernel_rfl)) ?_
    refine Obs.cons (Ob.imm rfl (fun w => by kernel_rfl)) ?_
    refine Obs.cons (Ob.imm rfl (fun w => by kernel_rfl)) ?_
    refine Obs.cons (Ob.new _ rfl rfl zero32.1 (by simp [bl_length])) ?_
    refine Obs.cons (Ob.put 23 rfl rfl rfl (by kernel_rfl) (by kernel_rfl) (by rw [bl_length]; exact info32) (bl_one _)) ?_
    refine Obs.cons (Ob.imm rfl (fun w => by kernel_rfl)) ?_
    exact Obs.nil
  replace hr_b0 := rangeAt_grown hr_b0 hD.gr
  replace hr_b1 := rangeAt_grown hr_b1 hD.gr
  replace hr_b2 := rangeAt_grown hr_b2 hD.gr
  replace hr_b3 := rangeAt_grown hr_b3 hD.gr
  replace hr_b4 := rangeAt_grown hr_b4 hD.gr
  replace ht_b2 := there_grown ht_b2 hD.gr
  replace ht_b3 := there_grown ht_b3 hD.gr
  replace ht_b4 := there_grown ht_b4 hD.gr
  obtain ⟨hf_b5, ht_b5⟩ := hD.nw 7 _ _ rfl
  have hr_b5 : w6.rangeAt (β 7) 0 (bl (rt (fmul (u) (u)) (1))) := hD.rg 8 7 7 (fun _ => bl (rt (fmul (u) (u)) (1))) rfl
  replace hf_b5 := Nat.le_trans hW.2.2 hf_b5
  replace hW := grown_trans hW hD.gr
  clear hD
  simp only [finAct, putAll, valsFrom, Plan.value, Act.put, List.setIfInBounds_toArray, List.set_cons_zero, List.set_cons_succ]
  replace hGl := hGl0.grown hW
  generalize β (0 + 1 + 1 + 1 + 1 + 1 + 1 + 1) = b5 at *
  repeat ((fail_if_success (with_reducible show Code.wp _ (Code.region _ _ _) _ _ _)); go_step)
  replace hr_b0 := rangeAt_grown hr_b0 (gdrew w6)
  replace hr_b1 := rangeAt_grown hr_b1 (gdrew w6)
  replace hr_b2 := rangeAt_grown hr_b2 (gdrew w6)
  replace hr_b3 := rangeAt_grown hr_b3 (gdrew w6)
  replace hr_b4 := rangeAt_grown hr_b4 (gdrew w6)
  replace hr_b5 := rangeAt_grown hr_b5 (gdrew w6)
  replace ht_b2 := there_grown ht_b2 (gdrew w6)
  replace ht_b3 := there_grown ht_b3 (gdrew w6)
  replace ht_b4 := there_grown ht_b4 (gdrew w6)
  replace ht_b5 := there_grown ht_b5 (gdrew w6)
  replace hW := grown_trans hW (gdrew w6)
  replace hGl := hGl0.grown hW
  refine wp_loose [.imm (.bool true), .imm (.bool false), .imm (.bool false), .val (bv (rt (fmul (u) (u)) (1))), .val (bv (fmul (rt (fmul (u) (u)) (1)) (rt (fmul (u) (u)) (1)))), .val (bv (u)), .val (bv (fmul (u) (u))), .imm (.bool false), .imm (.bool false), .imm (.bool false), .imm (.pointer (some ⟨b5, 0, none⟩)), .val (.int .u8 ((rt (fmul (u) (u)) (1)) % 256 : Nat)), .imm (.int .u8 (((rt (fmul (u) (u)) (1)) % 256) % 2 : Nat)), .imm (.bool false), .imm (.bool false)] (by kernel_rfl) (by kernel_rfl) (fun β => ?_) (fun β w7 hD => ?_)
  · refine Obs.cons (Ob.imm rfl (fun w => by kernel_rfl)) ?_
    refine Obs.cons (Ob.imm rfl (fun w => by kernel_rfl)) ?_
    refine Obs.cons (Ob.imm rfl (fun w => by kernel_rfl)) ?_
    refine Obs.cons (Ob.load (b5) 0 (bl (rt (fmul (u) (u)) (1))) (by kernel_rfl) rfl (by kernel_rfl) hr_b5 Tryd.underlying23 rfl (by rw [bl_length]; exact info32)) ?_
    refine Obs.cons (Ob.call 17 #[bv (rt (fmul (u) (u)) (1))] (by kernel_rfl) (fun w => by kernel_rfl) (fun w hg => Square_f (rt (fmul (u) (u)) (1)) (rt_M _ _) w)) ?_
    refine Obs.cons (Ob.load (b0) 0 (bl (u)) (by kernel_rfl) rfl (by kernel_rfl) hr_b0 Tryd.underlying23 rfl (by rw [bl_length]; exact info32)) ?_
    refine Obs.cons (Ob.call 17 #[bv (u)] (by kernel_rfl) (fun w => by kernel_rfl) (fun w hg => Square_f (u) hu w)) ?_
    refine Obs.cons (Ob.imm (by kernel_rfl) (fun w => exec_neq_same rfl (fmul (rt (fmul (u) (u)) (1)) (rt (fmul (u) (u)) (1))) (fmul (u) (u)) (by kernel_rfl) (by kernel_rfl) (fmul_lt _ _) (fmul_lt _ _) (rt_sq1 u) w)) ?_
    refine Obs.cons (Ob.imm rfl (fun w => by kernel_rfl)) ?_
    refine Obs.cons (Ob.imm rfl (fun w => by kernel_rfl)) ?_
    refine Obs.cons (Ob.imm (by kernel_rfl) (fun w => exec_idx 0 (by decide) rfl (by kernel_rfl) (by kernel_rfl))) ?_
    refine Obs.cons (Ob.load1 (b5) 0 (by kernel_rfl) rfl (by kernel_rfl) (block_lt_of_cell (cell_low hr_b5)) (cell_low hr_b5) (fun w h => run_load8 w h)) ?_
    refine Obs.cons (Ob.imm (by kernel_rfl) (fun w => exec_rem8' ((rt (fmul (u) (u)) (1)) % 256) rfl (by kernel_rfl) (by kernel_rfl) (Nat.mod_lt _ (by decide)))) ?_
    refine Obs.cons (Ob.imm (by kernel_rfl) (fun w => exec_eq8 (((rt (fmul (u) (u)) (1)) % 256) % 2) (1) rfl (by kernel_rfl) (by kernel_rfl) false (decide_eq_false (rt_even' (rok_sq u))))) ?_
    refine Obs.cons (Ob.imm rfl (fun w => by kernel_rfl)) ?_
    exact Obs.nil
  replace hr_b0 := rangeAt_grown hr_b0 hD.gr
  replace hr_b1 := rangeAt_grown hr_b1 hD.gr
  replace hr_b2 := rangeAt_grown hr_b2 hD.gr
  replace hr_b3 := rangeAt_grown hr_b3 hD.gr
  replace hr_b4 := rangeAt_grown hr_b4 hD.gr
  replace hr_b5 := rangeAt_grown hr_b5 hD.gr
  replace ht_b2 := there_grown ht_b2 hD.gr
  replace ht_b3 := there_grown ht_b3 hD.gr
  replace ht_b4 := there_grown ht_b4 hD.gr
  replace ht_b5 := there_grown ht_b5 hD.gr
  replace hW := grown_trans hW hD.gr
  clear hD
  simp only [finAct, putAll, valsFrom, Plan.value, Act.put, List.setIfInBounds_toArray, List.set_cons_zero, List.set_cons_succ]
  replace hGl := hGl0.grown hW
  repeat ((fail_if_success (with_reducible show Code.wp _ (Code.region _ _ _) _ _ _)); go_step)
  refine wp_plain [.val (bv (u)), .val (bv (fred (u))), .new 23 32, .put 2 2 (fun _ => bl (fred (u)))] (by kernel_rfl) (fun β => ?_) (fun β w8 hD => ?_)
  · refine Obs.cons (Ob.load (b0) 0 (bl (u)) rfl rfl (by kernel_rfl) hr_b0 Tryd.underlying23 rfl (by rw [bl_length]; exact info32)) ?_
    refine Obs.cons (Ob.call 13 #[bv (u)] rfl (fun w => by kernel_rfl) (fun w hg => Reduce_f (u) hu w)) ?_
    refine Obs.cons (Ob.new _ rfl rfl zero32.1 (by simp [bl_length])) ?_
    refine Obs.cons (Ob.put 23 rfl rfl rfl (by kernel_rfl) (by kernel_rfl) (by rw [bl_length]; exact info32) (bl_one _)) ?_
    exact Obs.nil
  replace hr_b0 := rangeAt_grown hr_b0 hD.gr
  replace hr_b1 := rangeAt_grown hr_b1 hD.gr
  replace hr_b2 := rangeAt_grown hr_b2 hD.gr
  replace hr_b3 := rangeAt_grown hr_b3 hD.gr
  replace hr_b4 := rangeAt_grown hr_b4 hD.gr
  replace hr_b5 := rangeAt_grown hr_b5 hD.gr
  replace ht_b2 := there_grown ht_b2 hD.gr
  replace ht_b3 := there_grown ht_b3 hD.gr
  replace ht_b4 := there_grown ht_b4 hD.gr
  replace ht_b5 := there_grown ht_b5 hD.gr
  obtain ⟨hf_b6, ht_b6⟩ := hD.nw 2 _ _ rfl
  have hr_b6 : w8.rangeAt (β 2) 0 (bl (fred (u))) := hD.rg 3 2 2 (fun _ => bl (fred (u))) rfl
  replace hf_b6 := Nat.le_trans hW.2.2 hf_b6
  replace hW := grown_trans hW hD.gr
  clear hD
  simp only [finAct, putAll, valsFrom, Plan.value, Act.put, List.setIfInBounds_toArray, List.set_cons_zero, List.set_cons_succ]
  replace hGl := hGl0.grown hW
  generalize β (0 + 1 + 1) = b6 at *
  repeat ((fail_if_success (with_reducible show Code.wp _ (Code.region _ _ _) _ _ _)); go_step)
  refine wp_plain [.val (bv (v)), .val (bv (fred (v))), .new 23 32, .put 2 2 (fun _ => bl (fred (v)))] (by kernel_rfl) (fun β => ?_) (fun β w9 hD => ?_)
  · refine Obs.cons (Ob.load (b1) 0 (bl (v)) rfl rfl (by kernel_rfl) hr_b1 Tryd.underlying23 rfl (by rw [bl_length]; exact info32)) ?_
    refine Obs.cons (Ob.call 13 #[bv (v)] rfl (fun w => by kernel_rfl) (fun w hg => Reduce_f (v) hv w)) ?_
    refine Obs.cons (Ob.new _ rfl rfl zero32.1 (by simp [bl_length])) ?_
    refine Obs.cons (Ob.put 23 rfl rfl rfl (by kernel_rfl) (by kernel_rfl) (by rw [bl_length]; exact info32) (bl_one _)) ?_
    exact Obs.nil
  replace hr_b0 := rangeAt_grown hr_b0 hD.gr
  replace hr_b1 := rangeAt_grown hr_b1 hD.gr
  replace hr_b2 := rangeAt_grown hr_b2 hD.gr
  replace hr_b3 := rangeAt_grown hr_b3 hD.gr
  replace hr_b4 := rangeAt_grown hr_b4 hD.gr
  replace hr_b5 := rangeAt_grown hr_b5 hD.gr
  replace hr_b6 := rangeAt_grown hr_b6 hD.gr
  replace ht_b2 := there_grown ht_b2 hD.gr
  replace ht_b3 := there_grown ht_b3 hD.gr
  replace ht_b4 := there_grown ht_b4 hD.gr
  replace ht_b5 := there_grown ht_b5 hD.gr
  replace ht_b6 := there_grown ht_b6 hD.gr
  obtain ⟨hf_b7, ht_b7⟩ := hD.nw 2 _ _ rfl
  have hr_b7 : w9.rangeAt (β 2) 0 (bl (fred (v))) := hD.rg 3 2 2 (fun _ => bl (fred (v))) rfl
  replace hf_b7 := Nat.le_trans hW.2.2 hf_b7
  replace hW := grown_trans hW hD.gr
  clear hD
  simp only [finAct, putAll, valsFrom, Plan.value, Act.put, List.setIfInBounds_toArray, List.set_cons_zero, List.set_cons_succ]
  replace hGl := hGl0.grown hW
  generalize β (0 + 1 + 1) = b7 at *
  repeat ((fail_if_success (with_reducible show Code.wp _ (Code.region _ _ _) _ _ _)); go_step)
  refine wp_plain [.val (bv (fred (u))), .val (bv (0)), .imm (.bool false)] (by kernel_rfl) (fun β => ?_) (fun β w10 hD => ?_)
  · refine Obs.cons (Ob.load (b6) 0 (bl (fred (u))) rfl rfl (by kernel_rfl) hr_b6 Tryd.underlying23 rfl (by rw [bl_length]; exact info32)) ?_
    refine Obs.cons (Ob.load (b2) 0 (bl (0)) rfl rfl (by kernel_rfl) hr_b2 Tryd.underlying23 rfl (by rw [bl_length]; exact info32)) ?_
    refine Obs.cons (Ob.imm rfl (fun w => exec_eql_apart rfl (fred (u)) (0) (by kernel_rfl) (by kernel_rfl) (fred_lt _) (by decide) (h0) w)) ?_
    exact Obs.nil
  replace hr_b0 := rangeAt_grown hr_b0 hD.gr
  replace hr_b1 := rangeAt_grown hr_b1 hD.gr
  replace hr_b2 := rangeAt_grown hr_b2 hD.gr
  replace hr_b3 := rangeAt_grown hr_b3 hD.gr
  replace hr_b4 := rangeAt_grown hr_b4 hD.gr
  replace hr_b5 := rangeAt_grown hr_b5 hD.gr
  replace hr_b6 := rangeAt_grown hr_b6 hD.gr
  replace hr_b7 := rangeAt_grown hr_b7 hD.gr
  replace ht_b2 := there_grown ht_b2 hD.gr
  replace ht_b3 := there_grown ht_b3 hD.gr
  replace ht_b4 := there_grown ht_b4 hD.gr
  replace ht_b5 := there_grown ht_b5 hD.gr
  replace ht_b6 := there_grown ht_b6 hD.gr
  replace ht_b7 := there_grown ht_b7 hD.gr
  replace hW := grown_trans hW hD.gr
  clear hD
  simp only [finAct, putAll, valsFrom, Plan.value, Act.put, List.setIfInBounds_toArray, List.set_cons_zero, List.set_cons_succ]
  replace hGl := hGl0.grown hW
  repeat ((fail_if_success (with_reducible show Code.wp _ (Code.region _ _ _) _ _ _)); go_step)
  refine wp_plain [.val (bv (fred (v))), .val (bv (0)), .imm (.bool true)] (by kernel_rfl) (fun β => ?_) (fun β w11 hD => ?_)
  · refine Obs.cons (Ob.load (b7) 0 (bl (fred (v))) rfl rfl (by kernel_rfl) hr_b7 Tryd.underlying23 rfl (by rw [bl_length]; exact info32)) ?_
    refine Obs.cons (Ob.load (b2) 0 (bl (0)) rfl rfl (by kernel_rfl) hr_b2 Tryd.underlying23 rfl (by rw [bl_length]; exact info32)) ?_
    refine Obs.cons (Ob.imm rfl (fun w => exec_eql_same rfl (fred (v)) (0) (by kernel_rfl) (by kernel_rfl) (fred_lt _) (by decide) (h1) w)) ?_
    exact Obs.nil
  replace hr_b0 := rangeAt_grown hr_b0 hD.gr
  replace hr_b1 := rangeAt_grown hr_b1 hD.gr
  replace hr_b2 := rangeAt_grown hr_b2 hD.gr
  replace hr_b3 := rangeAt_grown hr_b3 hD.gr
  replace hr_b4 := rangeAt_grown hr_b4 hD.gr
  replace hr_b5 := rangeAt_grown hr_b5 hD.gr
  replace hr_b6 := rangeAt_grown hr_b6 hD.gr
  replace hr_b7 := rangeAt_grown hr_b7 hD.gr
  replace ht_b2 := there_grown ht_b2 hD.gr
  replace ht_b3 := there_grown ht_b3 hD.gr
  replace ht_b4 := there_grown ht_b4 hD.gr
  replace ht_b5 := there_grown ht_b5 hD.gr
  replace ht_b6 := there_grown ht_b6 hD.gr
  replace ht_b7 := there_grown ht_b7 hD.gr
  replace hW := grown_trans hW hD.gr
  clear hD
  simp only [finAct, putAll, valsFrom, Plan.value, Act.put, List.setIfInBounds_toArray, List.set_cons_zero, List.set_cons_succ]
  replace hGl := hGl0.grown hW
  repeat ((fail_if_success (with_reducible show Code.wp _ (Code.region _ _ _) _ _ _)); go_step)
  refine wp_plain [.imm (.bool false), .imm (.bool true), .imm (.bool true)] (by kernel_rfl) (fun β => ?_) (fun β w12 hD => ?_)
  · refine Obs.cons (Ob.imm rfl (fun w => by kernel_rfl)) ?_
    refine Obs.cons (Ob.imm rfl (fun w => by kernel_rfl)) ?_
    refine Obs.cons (Ob.imm rfl (fun w => by kernel_rfl)) ?_
    exact Obs.nil
  replace hr_b0 := rangeAt_grown hr_b0 hD.gr
  replace hr_b1 := rangeAt_grown hr_b1 hD.gr
  replace hr_b2 := rangeAt_grown hr_b2 hD.gr
  replace hr_b3 := rangeAt_grown hr_b3 hD.gr
  replace hr_b4 := rangeAt_grown hr_b4 hD.gr
  replace hr_b5 := rangeAt_grown hr_b5 hD.gr
  replace hr_b6 := rangeAt_grown hr_b6 hD.gr
  replace hr_b7 := rangeAt_grown hr_b7 hD.gr
  replace ht_b2 := there_grown ht_b2 hD.gr
  replace ht_b3 := there_grown ht_b3 hD.gr
  replace ht_b4 := there_grown ht_b4 hD.gr
  replace ht_b5 := there_grown ht_b5 hD.gr
  replace ht_b6 := there_grown ht_b6 hD.gr
  replace ht_b7 := there_grown ht_b7 hD.gr
  replace hW := grown_trans hW hD.gr
  clear hD
  simp only [finAct, putAll, valsFrom, Plan.value, Act.put, List.setIfInBounds_toArray, List.set_cons_zero, List.set_cons_succ]
  replace hGl := hGl0.grown hW
  repeat go_step
  go_ret
  exact ⟨rfl, hW⟩

set_option maxRecDepth 100000 in
set_option maxHeartbeats 2000000 in
theorem Fr_yes (u v : Nat) (hu : u < M) (hv : v < M) (h0 : ¬ u % p = 0) (h1 : ¬ v % p = 0) (hr : rok u v) (w : World) (hGl0 : G4 w) :
    Calls Tryd.prog 4 #[bv u, bv v] w fun e w' => e = .returned (.bool true) ∧ Grown w w' := by
  have hW := Grown.refl w
  have hGl := hGl0
  go_enter Tryd.func4, Tryd.ntmps4
  repeat ((fail_if_success (with_reducible show Code.wp _ (Code.region _ _ _) _ _ _)); go_step)
  refine wp_plain [.box 23 (bl (u)), .box 23 (bl (v)), .imm (.bool false)] (by kernel_rfl) (fun β => ?_) (fun β w1 hD => ?_)
  · refine Obs.cons (Ob.box rfl rfl (by kernel_rfl)) ?_
    refine Obs.cons (Ob.box rfl rfl (by kernel_rfl)) ?_
    refine Obs.cons (Ob.imm rfl (fun w => by kernel_rfl)) ?_
    exact Obs.nil
  obtain ⟨hf_b0, hr_b0⟩ := hD.bx 0 _ _ rfl
  replace hf_b0 := Nat.le_trans hW.2.2 hf_b0
  obtain ⟨hf_b1, hr_b1⟩ := hD.bx 1 _ _ rfl
  replace hf_b1 := Nat.le_trans hW.2.2 hf_b1
  replace hW := grown_trans hW hD.gr
  clear hD
  simp only [finAct, putAll, valsFrom, Plan.value, Act.put, List.setIfInBounds_toArray, List.set_cons_zero, List.set_cons_succ]
  replace hGl := hGl0.grown hW
  generalize β 0 = b0 at *
  generalize β (0 + 1) = b1 at *
  repeat ((fail_if_success (with_reducible show Code.wp _ (Code.region _ _ _) _ _ _)); go_step)
  refine wp_plain [.val (bv (0)), .new 23 32, .put 1 1 (fun _ => bl (0))] (by kernel_rfl) (fun β => ?_) (fun β w2 hD => ?_)
  · refine Obs.cons (Ob.call 9 #[.int .u8 (0)] rfl (fun w => by kernel_rfl) (fun w hg => number_nat 0 (by decide) 0 rfl w)) ?_
    refine Obs.cons (Ob.new _ rfl rfl zero32.1 (by simp [bl_length])) ?_
    refine Obs.cons (Ob.put 23 rfl rfl rfl (by kernel_rfl) (by kernel_rfl) (by rw [bl_length]; exact info32) (bl_one _)) ?_
    exact Obs.nil
  replace hr_b0 := rangeAt_grown hr_b0 hD.gr
  replace hr_b1 := rangeAt_grown hr_b1 hD.gr
  obtain ⟨hf_b2, ht_b2⟩ := hD.nw 1 _ _ rfl
  have hr_b2 : w2.rangeAt (β 1) 0 (bl (0)) := hD.rg 2 1 1 (fun _ => bl (0)) rfl
  replace hf_b2 := Nat.le_trans hW.2.2 hf_b2
  replace hW := grown_trans hW hD.gr
  clear hD
  simp only [finAct, putAll, valsFrom, Plan.value, Act.put, List.setIfInBounds_toArray, List.set_cons_zero, List.set_cons_succ]
  replace hGl := hGl0.grown hW
  generalize β (0 + 1) = b2 at *
  repeat ((fail_if_success (with_reducible show Code.wp _ (Code.region _ _ _) _ _ _)); go_step)
  refine wp_plain [.val (bv (1)), .new 23 32, .put 1 1 (fun _ => bl (1))] (by kernel_rfl) (fun β => ?_) (fun β w3 hD => ?_)
  · refine Obs.cons (Ob.call 9 #[.int .u8 (1)] rfl (fun w => by kernel_rfl) (fun w hg => number_nat 1 (by decide) 1 rfl w)) ?_
    refine Obs.cons (Ob.new _ rfl rfl zero32.1 (by simp [bl_length])) ?_
    refine Obs.cons (Ob.put 23 rfl rfl rfl (by kernel_rfl) (by kernel_rfl) (by rw [bl_length]; exact info32) (bl_one _)) ?_
    exact Obs.nil
  replace hr_b0 := rangeAt_grown hr_b0 hD.gr
  replace hr_b1 := rangeAt_grown hr_b1 hD.gr
  replace hr_b2 := rangeAt_grown hr_b2 hD.gr
  replace ht_b2 := there_grown ht_b2 hD.gr
  obtain ⟨hf_b3, ht_b3⟩ := hD.nw 1 _ _ rfl
  have hr_b3 : w3.rangeAt (β 1) 0 (bl (1)) := hD.rg 2 1 1 (fun _ => bl (1)) rfl
  replace hf_b3 := Nat.le_trans hW.2.2 hf_b3
  replace hW := grown_trans hW hD.gr
  clear hD
  simp only [finAct, putAll, valsFrom, Plan.value, Act.put, List.setIfInBounds_toArray, List.set_cons_zero, List.set_cons_succ]
  replace hGl := hGl0.grown hW
  generalize β (0 + 1) = b3 at *
  repeat ((fail_if_success (with_reducible show Code.wp _ (Code.region _ _ _) _ _ _)); go_step)
  refine wp_plain [.val (bv (u)), .val (bv (v)), .val (.tuple #[bv (rt (u) (v)), .bool true]), .imm (.tuple #[bv (rt (u) (v)), .bool true]), .imm (bv (rt (u) (v))), .imm (.bool true), .new 23 32, .put 6 6 (fun _ => bl (rt (u) (v))), .imm (.bool true)] (by kernel_rfl) (fun β => ?_) (fun β w4 hD => ?_)
  · refine Obs.cons (Ob.load (b0) 0 (bl (u)) rfl rfl (by kernel_rfl) hr_b0 Tryd.underlying23 rfl (by rw [bl_length]; exact info32)) ?_
    refine Obs.cons (Ob.load (b1) 0 (bl (v)) rfl rfl (by kernel_rfl) hr_b1 Tryd.underlying23 rfl (by rw [bl_length]; exact info32)) ?_
    refine Obs.cons (Ob.call 16 #[bv (u), bv (v)] rfl (fun w => by kernel_rfl) (fun w hg => SqrtRatio_yes (u) (v) hu hv (hr) w (hGl.grown hg).g1)) ?_
    refine Obs.cons (Ob.imm rfl (fun w => by kernel_rfl)) ?_
    refine Obs.cons (Ob.imm rfl (fun w => by kernel_rfl)) ?_
    refine Obs.cons (Ob.imm rfl (fun w => by kernel_rfl)) ?_
    refine Obs.cons (Ob.new _ rfl rfl zero32.1 (by simp [bl_length])) ?_
    refine Obs.cons (Ob.put 23 rfl rfl rfl (by kernel_rfl) (by kernel_rfl) (by rw [bl_length]; exact info32) (bl_one _)) ?_
    refine Obs.cons (Ob.imm rfl (fun w => by kernel_rfl)) ?_
    exact Obs.nil
  replace hr_b0 := rangeAt_grown hr_b0 hD.gr
  replace hr_b1 := rangeAt_grown hr_b1 hD.gr
  replace hr_b2 := rangeAt_grown hr_b2 hD.gr
  replace hr_b3 := rangeAt_grown hr_b3 hD.gr
  replace ht_b2 := there_grown ht_b2 hD.gr
  replace ht_b3 := there_grown ht_b3 hD.gr
  obtain ⟨hf_b4, ht_b4⟩ := hD.nw 6 _ _ rfl
  have hr_b4 : w4.rangeAt (β 6) 0 (bl (rt (u) (v))) := hD.rg 7 6 6 (fun _ => bl (rt (u) (v))) rfl
  replace hf_b4 := Nat.le_trans hW.2.2 hf_b4
  replace hW := grown_trans hW hD.gr
  clear hD
  simp only [finAct, putAll, valsFrom, Plan.value, Act.put, List.setIfInBounds_toArray, List.set_cons_zero, List.set_cons_succ]
  replace hGl := hGl0.grown hW
  generalize β (0 + 1 + 1 + 1 + 1 + 1 + 1) = b4 at *
  repeat ((fail_if_success (with_reducible show Code.wp _ (Code.region _ _ _) _ _ _)); go_step)
  refine wp_plain [.imm (.bool true), .imm (.bool false), .imm (.bool false), .skip, .skip, .skip, .imm (.bool false)] (by kernel_rfl) (fun β => ?_) (fun β w5 hD => ?_)
  · refine Obs.cons (Ob.imm rfl (fun w => by kernel_rfl)) ?_
    refine Obs.cons (Ob.imm rfl (fun w => by kernel_rfl)) ?_
    refine Obs.cons (Ob.imm rfl (fun w => by kernel_rfl)) ?_
    refine Obs.cons (Ob.skip (by kernel_rfl)) ?_
    refine Obs.cons (Ob.skip (by kernel_rfl)) ?_
    refine Obs.cons (Ob.skip (by kernel_rfl)) ?_
    refine Obs.cons (Ob.imm rfl (fun w => by kernel_rfl)) ?_
    exact Obs.nil
  replace hr_b0 := rangeAt_grown hr_b0 hD.gr
  replace hr_b1 := rangeAt_grown hr_b1 hD.gr
  replace hr_b2 := rangeAt_grown hr_b2 hD.gr
  replace hr_b3 := rangeAt_grown hr_b3 hD.gr
  replace hr_b4 := rangeAt_grown hr_b4 hD.gr
  replace ht_b2 := there_grown ht_b2 hD.gr
  replace ht_b3 := there_grown ht_b3 hD.gr
  replace ht_b4 := there_grown ht_b4 hD.gr
  replace hW := grown_trans hW hD.gr
  clear hD
  simp only [finAct, putAll, valsFrom, Plan.value, Act.put, List.setIfInBounds_toArray, List.set_cons_zero, List.set_cons_succ]
  replace hGl := hGl0.grown hW
  repeat ((fail_if_success (with_reducible show Code.wp _ (Code.region _ _ _) _ _ _)); go_step)
  replace hr_b0 := rangeAt_grown hr_b0 (gdrew w5)
  replace hr_b1 := rangeAt_grown hr_b1 (gdrew w5)
  replace hr_b2 := rangeAt_grown hr_b2 (gdrew w5)
  replace hr_b3 := rangeAt_grown hr_b3 (gdrew w5)
  replace hr_b4 := rangeAt_grown hr_b4 (gdrew w5)
  replace ht_b2 := there_grown ht_b2 (gdrew w5)
  replace ht_b3 := there_grown ht_b3 (gdrew w5)
  replace ht_b4 := there_grown ht_b4 (gdrew w5)
  replace hW := grown_trans hW (gdrew w5)
  replace hGl := hGl0.grown hW
  refine wp_loose [.val (bv (u)), .val (bv (fmul (u) (u))), .val (bv (1)), .val (.tuple #[bv (rt (fmul (u) (u)) (1)), .bool true]), .imm (.tuple #[bv (rt (fmul (u) (u)) (1)), .bool true]), .imm (bv (rt (fmul (u) (u)) (1))), .imm (.bool true), .new 23 32, .put 7 7 (fun _ => bl (rt (fmul (u) (u)) (1))), .imm (.bool true)] (by kernel_rfl) (by kernel_rfl) (fun β => ?_) (fun β w6 hD => ?_)
  · refine Obs.cons (Ob.load (b0) 0 (bl (u)) rfl rfl (by kernel_rfl) hr_b0 Tryd.underlying23 rfl (by rw [bl_length]; exact info32)) ?_
    refine Obs.cons (Ob.call 17 #[bv (u)] rfl (fun w => by kernel_rfl) (fun w hg => Square_f (u) hu w)) ?_
    refine Obs.cons (Ob.load (b3) 0 (bl (1)) rfl rfl (by kernel_rfl) hr_b3 Tryd.underlying23 rfl (by rw [bl_length]; exact info32)) ?_
    refine Obs.cons (Ob.call 16 #[bv (fmul (u) (u)), bv (1)] rfl (fun w => by kernel_rfl) (fun w hg => SqrtRatio_yes (fmul (u) (u)) (1) (fmul_lt _ _) (by decide) (rok_sq u) w (hGl.grown hg).g1)) ?_
    refine Obs.cons (Ob.imm rfl (fun w => by kernel_rfl)) ?_
    refine Obs.cons (Ob.imm rfl (fun w => by kernel_rfl)) ?_
    refine Obs.cons (Ob.imm rfl (fun w => by kernel_rfl)) ?_
    refine Obs.cons (Ob.new _ rfl rfl zero32.1 (by simp [bl_length])) ?_
    refine Obs.cons (Ob.put 23 rfl rfl rfl (by kernel_rfl) (by kernel_rfl) (by rw [bl_length]; exact info32) (bl_one _)) ?_
    refine Obs.cons (Ob.imm rfl (fun w => by kernel_rfl)) ?_
    exact Obs.nil
  replace hr_b0 := rangeAt_grown hr_b0 hD.gr
  replace hr_b1 := rangeAt_grown hr_b1 hD.gr
  replace hr_b2 := rangeAt_grown hr_b2 hD.gr
  replace hr_b3 := rangeAt_grown hr_b3 hD.gr
  replace hr_b4 := rangeAt_grown hr_b4 hD.gr
  replace ht_b2 := there_grown ht_b2 hD.gr
  replace ht_b3 := there_grown ht_b3 hD.gr
  replace ht_b4 := there_grown ht_b4 hD.gr
  obtain ⟨hf_b5, ht_b5⟩ := hD.nw 7 _ _ rfl
  have hr_b5 : w6.rangeAt (β 7) 0 (bl (rt (fmul (u) (u)) (1))) := hD.rg 8 7 7 (fun _ => bl (rt (fmul (u) (u)) (1))) rfl
  replace hf_b5 := Nat.le_trans hW.2.2 hf_b5
  replace hW := grown_trans hW hD.gr
  clear hD
  simp only [finAct, putAll, valsFrom, Plan.value, Act.put, List.setIfInBounds_toArray, List.set_cons_zero, List.set_cons_succ]
  replace hGl := hGl0.grown hW
  generalize β (0 + 1 + 1 + 1 + 1 + 1 + 1 + 1) = b5 at *
  repeat ((fail_if_success (with_reducible show Code.wp _ (Code.region _ _ _) _ _ _)); go_step)
  replace hr_b0 := rangeAt_grown hr_b0 (gdrew w6)
  replace hr_b1 := rangeAt_grown hr_b1 (gdrew w6)
  replace hr_b2 := rangeAt_grown hr_b2 (gdrew w6)
  replace hr_b3 := rangeAt_grown hr_b3 (gdrew w6)
  replace hr_b4 := rangeAt_grown hr_b4 (gdrew w6)
  replace hr_b5 := rangeAt_grown hr_b5 (gdrew w6)
  replace ht_b2 := there_grown ht_b2 (gdrew w6)
  replace ht_b3 := there_grown ht_b3 (gdrew w6)
  replace ht_b4 := there_grown ht_b4 (gdrew w6)
  replace ht_b5 := there_grown ht_b5 (gdrew w6)
  replace hW := grown_trans hW (gdrew w6)
  replace hGl := hGl0.grown hW
  refine wp_loose [.imm (.bool true), .imm (.bool false), .imm (.bool false), .val (bv (rt (fmul (u) (u)) (1))), .val (bv (fmul (rt (fmul (u) (u)) (1)) (rt (fmul (u) (u)) (1)))), .val (bv (u)), .val (bv (fmul (u) (u))), .imm (.bool false), .imm (.bool false), .imm (.bool false), .imm (.pointer (some ⟨b5, 0, none⟩)), .val (.int .u8 ((rt (fmul (u) (u)) (1)) % 256 : Nat)), .imm (.int .u8 (((rt (fmul (u) (u)) (1)) % 256) % 2 : Nat)), .imm (.bool false), .imm (.bool false)] (by kernel_rfl) (by kernel_rfl) (fun β => ?_) (fun β w7 hD => ?_)
  · refine Obs.cons (Ob.imm rfl (fun w => by kernel_rfl)) ?_
    refine Obs.cons (Ob.imm rfl (fun w => by kernel_rfl)) ?_
    refine Obs.cons (Ob.imm rfl (fun w => by kernel_rfl)) ?_
    refine Obs.cons (Ob.load (b5) 0 (bl (rt (fmul (u) (u)) (1))) (by kernel_rfl) rfl (by kernel_rfl) hr_b5 Tryd.underlying23 rfl (by rw [bl_length]; exact info32)) ?_
    refine Obs.cons (Ob.call 17 #[bv (rt (fmul (u) (u)) (1))] (by kernel_rfl) (fun w => by kernel_rfl) (fun w hg => Square_f (rt (fmul (u) (u)) (1)) (rt_M _ _) w)) ?_
    refine Obs.cons (Ob.load (b0) 0 (bl (u)) (by kernel_rfl) rfl (by kernel_rfl) hr_b0 Tryd.underlying23 rfl (by rw [bl_length]; exact info32)) ?_
    refine Obs.cons (Ob.call 17 #[bv (u)] (by kernel_rfl) (fun w => by kernel_rfl) (fun w hg => Square_f (u) hu w)) ?_
    refine Obs.cons (Ob.imm (by kernel_rfl) (fun w => exec_neq_same rfl (fmul (rt (fmul (u) (u)) (1)) (rt (fmul (u) (u)) (1))) (fmul (u) (u)) (by kernel_rfl) (by kernel_rfl) (fmul_lt _ _) (fmul_lt _ _) (rt_sq1 u) w)) ?_
    refine Obs.cons (Ob.imm rfl (fun w => by kernel_rfl)) ?_
    refine Obs.cons (Ob.imm rfl (fun w => by kernel_rfl)) ?_
    refine Obs.cons (Ob.imm (by kernel_rfl) (fun w => exec_idx 0 (by decide) rfl (by kernel_rfl) (by kernel_rfl))) ?_
    refine Obs.cons (Ob.load1 (b5) 0 (by kernel_rfl) rfl (by kernel_rfl) (block_lt_of_cell (cell_low hr_b5)) (cell_low hr_b5) (fun w h => run_load8 w h)) ?_
    refine Obs.cons (Ob.imm (by kernel_rfl) (fun w => exec_rem8' ((rt (fmul (u) (u)) (1)) % 256) rfl (by kernel_rfl) (by kernel_rfl) (Nat.mod_lt _ (by decide)))) ?_
    refine Obs.cons (Ob.imm (by kernel_rfl) (fun w => exec_eq8 (((rt (fmul (u) (u)) (1)) % 256) % 2) (1) rfl (by kernel_rfl) (by kernel_rfl) false (decide_eq_false (rt_even' (rok_sq u))))) ?_
    refine Obs.cons (Ob.imm rfl (fun w => by kernel_rfl)) ?_
    exact Obs.nil
  replace hr_b0 := rangeAt_grown hr_b0 hD.gr
  replace hr_b1 := rangeAt_grown hr_b1 hD.gr
  replace hr_b2 := rangeAt_grown hr_b2 hD.gr
  replace hr_b3 := rangeAt_grown hr_b3 hD.gr
  replace hr_b4 := rangeAt_grown hr_b4 hD.gr
  replace hr_b5 := rangeAt_grown hr_b5 hD.gr
  replace ht_b2 := there_grown ht_b2 hD.gr
  replace ht_b3 := there_grown ht_b3 hD.gr
  replace ht_b4 := there_grown ht_b4 hD.gr
  replace ht_b5 := there_grown ht_b5 hD.gr
  replace hW := grown_trans hW hD.gr
  clear hD
  simp only [finAct, putAll, valsFrom, Plan.value, Act.put, List.setIfInBounds_toArray, List.set_cons_zero, List.set_cons_succ]
  replace hGl := hGl0.grown hW
  repeat ((fail_if_success (with_reducible show Code.wp _ (Code.region _ _ _) _ _ _)); go_step)
  refine wp_plain [.val (bv (u)), .val (bv (fred (u))), .new 23 32, .put 2 2 (fun _ => bl (fred (u)))] (by kernel_rfl) (fun β => ?_) (fun β w8 hD => ?_)
  · refine Obs.cons (Ob.load (b0) 0 (bl (u)) rfl rfl (by kernel_rfl) hr_b0 Tryd.underlying23 rfl (by rw [bl_length]; exact info32)) ?_
    refine Obs.cons (Ob.call 13 #[bv (u)] rfl (fun w => by kernel_rfl) (fun w hg => Reduce_f (u) hu w)) ?_
    refine Obs.cons (Ob.new _ rfl rfl zero32.1 (by simp [bl_length])) ?_
    refine Obs.cons (Ob.put 23 rfl rfl rfl (by kernel_rfl) (by kernel_rfl) (by rw [bl_length]; exact info32) (bl_one _)) ?_
    exact Obs.nil
  replace hr_b0 := rangeAt_grown hr_b0 hD.gr
  replace hr_b1 := rangeAt_grown hr_b1 hD.gr
  replace hr_b2 := rangeAt_grown hr_b2 hD.gr
  replace hr_b3 := rangeAt_grown hr_b3 hD.gr
  replace hr_b4 := rangeAt_grown hr_b4 hD.gr
  replace hr_b5 := rangeAt_grown hr_b5 hD.gr
  replace ht_b2 := there_grown ht_b2 hD.gr
  replace ht_b3 := there_grown ht_b3 hD.gr
  replace ht_b4 := there_grown ht_b4 hD.gr
  replace ht_b5 := there_grown ht_b5 hD.gr
  obtain ⟨hf_b6, ht_b6⟩ := hD.nw 2 _ _ rfl
  have hr_b6 : w8.rangeAt (β 2) 0 (bl (fred (u))) := hD.rg 3 2 2 (fun _ => bl (fred (u))) rfl
  replace hf_b6 := Nat.le_trans hW.2.2 hf_b6
  replace hW := grown_trans hW hD.gr
  clear hD
  simp only [finAct, putAll, valsFrom, Plan.value, Act.put, List.setIfInBounds_toArray, List.set_cons_zero, List.set_cons_succ]
  replace hGl := hGl0.grown hW
  generalize β (0 + 1 + 1) = b6 at *
  repeat ((fail_if_success (with_reducible show Code.wp _ (Code.region _ _ _) _ _ _)); go_step)
  refine wp_plain [.val (bv (v)), .val (bv (fred (v))), .new 23 32, .put 2 2 (fun _ => bl (fred (v)))] (by kernel_rfl) (fun β => ?_) (fun β w9 hD => ?_)
  · refine Obs.cons (Ob.load (b1) 0 (bl (v)) rfl rfl (by kernel_rfl) hr_b1 Tryd.underlying23 rfl (by rw [bl_length]; exact info32)) ?_
    refine Obs.cons (Ob.call 13 #[bv (v)] rfl (fun w => by kernel_rfl) (fun w hg => Reduce_f (v) hv w)) ?_
    refine Obs.cons (Ob.new _ rfl rfl zero32.1 (by simp [bl_length])) ?_
    refine Obs.cons (Ob.put 23 rfl rfl rfl (by kernel_rfl) (by kernel_rfl) (by rw [bl_length]; exact info32) (bl_one _)) ?_
    exact Obs.nil
  replace hr_b0 := rangeAt_grown hr_b0 hD.gr
  replace hr_b1 := rangeAt_grown hr_b1 hD.gr
  replace hr_b2 := rangeAt_grown hr_b2 hD.gr
  replace hr_b3 := rangeAt_grown hr_b3 hD.gr
  replace hr_b4 := rangeAt_grown hr_b4 hD.gr
  replace hr_b5 := rangeAt_grown hr_b5 hD.gr
  replace hr_b6 := rangeAt_grown hr_b6 hD.gr
  replace ht_b2 := there_grown ht_b2 hD.gr
  replace ht_b3 := there_grown ht_b3 hD.gr
  replace ht_b4 := there_grown ht_b4 hD.gr
  replace ht_b5 := there_grown ht_b5 hD.gr
  replace ht_b6 := there_grown ht_b6 hD.gr
  obtain ⟨hf_b7, ht_b7⟩ := hD.nw 2 _ _ rfl
  have hr_b7 : w9.rangeAt (β 2) 0 (bl (fred (v))) := hD.rg 3 2 2 (fun _ => bl (fred (v))) rfl
  replace hf_b7 := Nat.le_trans hW.2.2 hf_b7
  replace hW := grown_trans hW hD.gr
  clear hD
  simp only [finAct, putAll, valsFrom, Plan.value, Act.put, List.setIfInBounds_toArray, List.set_cons_zero, List.set_cons_succ]
  replace hGl := hGl0.grown hW
  generalize β (0 + 1 + 1) = b7 at *
  repeat ((fail_if_success (with_reducible show Code.wp _ (Code.region _ _ _) _ _ _)); go_step)
  refine wp_plain [.val (bv (fred (u))), .val (bv (0)), .imm (.bool false)] (by kernel_rfl) (fun β => ?_) (fun β w10 hD => ?_)
  · refine Obs.cons (Ob.load (b6) 0 (bl (fred (u))) rfl rfl (by kernel_rfl) hr_b6 Tryd.underlying23 rfl (by rw [bl_length]; exact info32)) ?_
    refine Obs.cons (Ob.load (b2) 0 (bl (0)) rfl rfl (by kernel_rfl) hr_b2 Tryd.underlying23 rfl (by rw [bl_length]; exact info32)) ?_
    refine Obs.cons (Ob.imm rfl (fun w => exec_eql_apart rfl (fred (u)) (0) (by kernel_rfl) (by kernel_rfl) (fred_lt _) (by decide) (h0) w)) ?_
    exact Obs.nil
  replace hr_b0 := rangeAt_grown hr_b0 hD.gr
  replace hr_b1 := rangeAt_grown hr_b1 hD.gr
  replace hr_b2 := rangeAt_grown hr_b2 hD.gr
  replace hr_b3 := rangeAt_grown hr_b3 hD.gr
  replace hr_b4 := rangeAt_grown hr_b4 hD.gr
  replace hr_b5 := rangeAt_grown hr_b5 hD.gr
  replace hr_b6 := rangeAt_grown hr_b6 hD.gr
  replace hr_b7 := rangeAt_grown hr_b7 hD.gr
  replace ht_b2 := there_grown ht_b2 hD.gr
  replace ht_b3 := there_grown ht_b3 hD.gr
  replace ht_b4 := there_grown ht_b4 hD.gr
  replace ht_b5 := there_grown ht_b5 hD.gr
  replace ht_b6 := there_grown ht_b6 hD.gr
  replace ht_b7 := there_grown ht_b7 hD.gr
  replace hW := grown_trans hW hD.gr
  clear hD
  simp only [finAct, putAll, valsFrom, Plan.value, Act.put, List.setIfInBounds_toArray, List.set_cons_zero, List.set_cons_succ]
  replace hGl := hGl0.grown hW
  repeat ((fail_if_success (with_reducible show Code.wp _ (Code.region _ _ _) _ _ _)); go_step)
  refine wp_plain [.val (bv (fred (v))), .val (bv (0)), .imm (.bool false)] (by kernel_rfl) (fun β => ?_) (fun β w11 hD => ?_)
  · refine Obs.cons (Ob.load (b7) 0 (bl (fred (v))) rfl rfl (by kernel_rfl) hr_b7 Tryd.underlying23 rfl (by rw [bl_length]; exact info32)) ?_
    refine Obs.cons (Ob.load (b2) 0 (bl (0)) rfl rfl (by kernel_rfl) hr_b2 Tryd.underlying23 rfl (by rw [bl_length]; exact info32)) ?_
    refine Obs.cons (Ob.imm rfl (fun w => exec_eql_apart rfl (fred (v)) (0) (by kernel_rfl) (by kernel_rfl) (fred_lt _) (by decide) (h1) w)) ?_
    exact Obs.nil
  replace hr_b0 := rangeAt_grown hr_b0 hD.gr
  replace hr_b1 := rangeAt_grown hr_b1 hD.gr
  replace hr_b2 := rangeAt_grown hr_b2 hD.gr
  replace hr_b3 := rangeAt_grown hr_b3 hD.gr
  replace hr_b4 := rangeAt_grown hr_b4 hD.gr
  replace hr_b5 := rangeAt_grown hr_b5 hD.gr
  replace hr_b6 := rangeAt_grown hr_b6 hD.gr
  replace hr_b7 := rangeAt_grown hr_b7 hD.gr
  replace ht_b2 := there_grown ht_b2 hD.gr
  replace ht_b3 := there_grown ht_b3 hD.gr
  replace ht_b4 := there_grown ht_b4 hD.gr
  replace ht_b5 := there_grown ht_b5 hD.gr
  replace ht_b6 := there_grown ht_b6 hD.gr
  replace ht_b7 := there_grown ht_b7 hD.gr
  replace hW := grown_trans hW hD.gr
  clear hD
  simp only [finAct, putAll, valsFrom, Plan.value, Act.put, List.setIfInBounds_toArray, List.set_cons_zero, List.set_cons_succ]
  replace hGl := hGl0.grown hW
  repeat ((fail_if_success (with_reducible show Code.wp _ (Code.region _ _ _) _ _ _)); go_step)
  replace hr_b0 := rangeAt_grown hr_b0 (gdrew w11)
  replace hr_b1 := rangeAt_grown hr_b1 (gdrew w11)
  replace hr_b2 := rangeAt_grown hr_b2 (gdrew w11)
  replace hr_b3 := rangeAt_grown hr_b3 (gdrew w11)
  replace hr_b4 := rangeAt_grown hr_b4 (gdrew w11)
  replace hr_b5 := rangeAt_grown hr_b5 (gdrew w11)
  replace hr_b6 := rangeAt_grown hr_b6 (gdrew w11)
  replace hr_b7 := rangeAt_grown hr_b7 (gdrew w11)
  replace ht_b2 := there_grown ht_b2 (gdrew w11)
  replace ht_b3 := there_grown ht_b3 (gdrew w11)
  replace ht_b4 := there_grown ht_b4 (gdrew w11)
  replace ht_b5 := there_grown ht_b5 (gdrew w11)
  replace ht_b6 := there_grown ht_b6 (gdrew w11)
  replace ht_b7 := there_grown ht_b7 (gdrew w11)
  replace hW := grown_trans hW (gdrew w11)
  replace hGl := hGl0.grown hW
  refine wp_loose [.imm (.bool true), .imm (.bool true), .val (bv (v)), .val (bv (rt (u) (v))), .val (bv (fmul (rt (u) (v)) (rt (u) (v)))), .val (bv (fmul (v) (fmul (rt (u) (v)) (rt (u) (v))))), .val (bv (fred (u))), .imm (.bool false), .imm (.bool false), .imm (.pointer (some ⟨b4, 0, none⟩)), .val (.int .u8 ((rt (u) (v)) % 256 : Nat)), .imm (.int .u8 (((rt (u) (v)) % 256) % 2 : Nat)), .imm (.bool false), .imm (.bool false), .imm (.bool false), .val (bv (rt (u) (v))), .val (.bool true), .imm (.bool false), .imm (.bool false), .imm (.bool false)] (by kernel_rfl) (by kernel_rfl) (fun β => ?_) (fun β w12 hD => ?_)
  · refine Obs.cons (Ob.imm rfl (fun w => by kernel_rfl)) ?_
    refine Obs.cons (Ob.imm rfl (fun w => by kernel_rfl)) ?_
    refine Obs.cons (Ob.load (b1) 0 (bl (v)) (by kernel_rfl) rfl (by kernel_rfl) hr_b1 Tryd.underlying23 rfl (by rw [bl_length]; exact info32)) ?_
    refine Obs.cons (Ob.load (b4) 0 (bl (rt (u) (v))) (by kernel_rfl) rfl (by kernel_rfl) hr_b4 Tryd.underlying23 rfl (by rw [bl_length]; exact info32)) ?_
    refine Obs.cons (Ob.call 17 #[bv (rt (u) (v))] (by kernel_rfl) (fun w => by kernel_rfl) (fun w hg => Square_f (rt (u) (v)) (rt_M _ _) w)) ?_
    refine Obs.cons (Ob.call 12 #[bv (v), bv (fmul (rt (u) (v)) (rt (u) (v)))] (by kernel_rfl) (fun w => by kernel_rfl) (fun w hg => Mul_f (v) (fmul (rt (u) (v)) (rt (u) (v))) hv (fmul_lt _ _) w)) ?_
    refine Obs.cons (Ob.load (b6) 0 (bl (fred (u))) (by kernel_rfl) rfl (by kernel_rfl) hr_b6 Tryd.underlying23 rfl (by rw [bl_length]; exact info32)) ?_
    refine Obs.cons (Ob.imm (by kernel_rfl) (fun w => exec_neq_same rfl (fmul (v) (fmul (rt (u) (v)) (rt (u) (v)))) (fred (u)) (by kernel_rfl) (by kernel_rfl) (fmul_lt _ _) (fred_lt _) (rt_sq' hr) w)) ?_
    refine Obs.cons (Ob.imm (by kernel_rfl) (fun w => by kernel_rfl)) ?_
    refine Obs.cons (Ob.imm (by kernel_rfl) (fun w => exec_idx 0 (by decide) rfl (by kernel_rfl) (by kernel_rfl))) ?_
    refine Obs.cons (Ob.load1 (b4) 0 (by kernel_rfl) rfl (by kernel_rfl) (block_lt_of_cell (cell_low hr_b4)) (cell_low hr_b4) (fun w h => run_load8 w h)) ?_
    refine Obs.cons (Ob.imm (by kernel_rfl) (fun w => exec_rem8' ((rt (u) (v)) % 256) rfl (by kernel_rfl) (by kernel_rfl) (Nat.mod_lt _ (by decide)))) ?_
    refine Obs.cons (Ob.imm (by kernel_rfl) (fun w => exec_eq8 (((rt (u) (v)) % 256) % 2) (1) rfl (by kernel_rfl) (by kernel_rfl) false (decide_eq_false (rt_even' hr)))) ?_
    refine Obs.cons (Ob.imm (by kernel_rfl) (fun w => by kernel_rfl)) ?_
    refine Obs.cons (Ob.imm (by kernel_rfl) (fun w => by kernel_rfl)) ?_
    refine Obs.cons (Ob.load (b4) 0 (bl (rt (u) (v))) (by kernel_rfl) rfl (by kernel_rfl) hr_b4 Tryd.underlying23 rfl (by rw [bl_length]; exact info32)) ?_
    refine Obs.cons (Ob.call 18 #[bv (rt (u) (v))] (by kernel_rfl) (fun w => by kernel_rfl) (fun w hg => canon_is (rt (u) (v)) (rt_M _ _) true (decide_eq_true (rt_lt' hr)) w)) ?_
    refine Obs.cons (Ob.imm (by kernel_rfl) (fun w => by kernel_rfl)) ?_
    refine Obs.cons (Ob.imm (by kernel_rfl) (fun w => by kernel_rfl)) ?_
    refine Obs.cons (Ob.imm rfl (fun w => by kernel_rfl)) ?_
    exact Obs.nil
  replace hr_b0 := rangeAt_grown hr_b0 hD.gr
  replace hr_b1 := rangeAt_grown hr_b1 hD.gr
  replace hr_b2 := rangeAt_grown hr_b2 hD.gr
  replace hr_b3 := rangeAt_grown hr_b3 hD.gr
  replace hr_b4 := rangeAt_grown hr_b4 hD.gr
  replace hr_b5 := rangeAt_grown hr_b5 hD.gr
  replace hr_b6 := rangeAt_grown hr_b6 hD.gr
  replace hr_b7 := rangeAt_grown hr_b7 hD.gr
  replace ht_b2 := there_grown ht_b2 hD.gr
  replace ht_b3 := there_grown ht_b3 hD.gr
  replace ht_b4 := there_grown ht_b4 hD.gr
  replace ht_b5 := there_grown ht_b5 hD.gr
  replace ht_b6 := there_grown ht_b6 hD.gr
  replace ht_b7 := there_grown ht_b7 hD.gr
  replace hW := grown_trans hW hD.gr
  clear hD
  simp only [finAct, putAll, valsFrom, Plan.value, Act.put, List.setIfInBounds_toArray, List.set_cons_zero, List.set_cons_succ]
  replace hGl := hGl0.grown hW
  repeat ((fail_if_success (with_reducible show Code.wp _ (Code.region _ _ _) _ _ _)); go_step)
  replace hr_b0 := rangeAt_grown hr_b0 (gdrew w12)
  replace hr_b1 := rangeAt_grown hr_b1 (gdrew w12)
  replace hr_b2 := rangeAt_grown hr_b2 (gdrew w12)
  replace hr_b3 := rangeAt_grown hr_b3 (gdrew w12)
  replace hr_b4 := rangeAt_grown hr_b4 (gdrew w12)
  replace hr_b5 := rangeAt_grown hr_b5 (gdrew w12)
  replace hr_b6 := rangeAt_grown hr_b6 (gdrew w12)
  replace hr_b7 := rangeAt_grown hr_b7 (gdrew w12)
  replace ht_b2 := there_grown ht_b2 (gdrew w12)
  replace ht_b3 := there_grown ht_b3 (gdrew w12)
  replace ht_b4 := there_grown ht_b4 (gdrew w12)
  replace ht_b5 := there_grown ht_b5 (gdrew w12)
  replace ht_b6 := there_grown ht_b6 (gdrew w12)
  replace ht_b7 := there_grown ht_b7 (gdrew w12)
  replace hW := grown_trans hW (gdrew w12)
  replace hGl := hGl0.grown hW
  refine wp_loose [.val (bv (u)), .val (bv (u)), .val (bv (fadd (u) (u))), .val (bv (v)), .val (.tuple #[bv (0), .bool false]), .imm (.tuple #[bv (0), .bool false]), .imm (bv (0)), .imm (.bool false), .new 23 32, .put 8 8 (fun _ => bl (0)), .imm (.bool false)] (by kernel_rfl) (by kernel_rfl) (fun β => ?_) (fun β w13 hD => ?_)
  · refine Obs.cons (Ob.load (b0) 0 (bl (u)) rfl rfl (by kernel_rfl) hr_b0 Tryd.underlying23 rfl (by rw [bl_length]; exact info32)) ?_
    refine Obs.cons (Ob.load (b0) 0 (bl (u)) rfl rfl (by kernel_rfl) hr_b0 Tryd.underlying23 rfl (by rw [bl_length]; exact info32)) ?_
    refine Obs.cons (Ob.call 19 #[bv (u), bv (u)] rfl (fun w => by kernel_rfl) (fun w hg => Add_f (u) (u) hu hu w)) ?_
    refine Obs.cons (Ob.load (b1) 0 (bl (v)) rfl rfl (by kernel_rfl) hr_b1 Tryd.underlying23 rfl (by rw [bl_length]; exact info32)) ?_
    refine Obs.cons (Ob.call 16 #[bv (fadd (u) (u)), bv (v)] rfl (fun w => by kernel_rfl) (fun w hg => SqrtRatio_no (fadd (u) (u)) (v) (fadd_lt _ _) hv (fun h => (rok_twice h0 h1).1 h hr) w (hGl.grown hg).g1)) ?_
    refine Obs.cons (Ob.imm rfl (fun w => by kernel_rfl)) ?_
    refine Obs.cons (Ob.imm rfl (fun w => by kernel_rfl)) ?_
    refine Obs.cons (Ob.imm rfl (fun w => by kernel_rfl)) ?_
    refine Obs.cons (Ob.new _ rfl rfl zero32.1 (by simp [bl_length])) ?_
    refine Obs.cons (Ob.put 23 rfl rfl rfl (by kernel_rfl) (by kernel_rfl) (by rw [bl_length]; exact info32) (bl_one _)) ?_
    refine Obs.cons (Ob.imm rfl (fun w => by kernel_rfl)) ?_
    exact Obs.nil
  replace hr_b0 := rangeAt_grown hr_b0 hD.gr
  replace hr_b1 := rangeAt_grown hr_b1 hD.gr
  replace hr_b2 := rangeAt_grown hr_b2 hD.gr
  replace hr_b3 := rangeAt_grown hr_b3 hD.gr
  replace hr_b4 := rangeAt_grown hr_b4 hD.gr
  replace hr_b5 := rangeAt_grown hr_b5 hD.gr
  replace hr_b6 := rangeAt_grown hr_b6 hD.gr
  replace hr_b7 := rangeAt_grown hr_b7 hD.gr
  replace ht_b2 := there_grown ht_b2 hD.gr
  replace ht_b3 := there_grown ht_b3 hD.gr
  replace ht_b4 := there_grown ht_b4 hD.gr
  replace ht_b5 := there_grown ht_b5 hD.gr
  replace ht_b6 := there_grown ht_b6 hD.gr
  replace ht_b7 := there_grown ht_b7 hD.gr
  obtain ⟨hf_b8, ht_b8⟩ := hD.nw 8 _ _ rfl
  have hr_b8 : w13.rangeAt (β 8) 0 (bl (0)) := hD.rg 9 8 8 (fun _ => bl (0)) rfl
  replace hf_b8 := Nat.le_trans hW.2.2 hf_b8
  replace hW := grown_trans hW hD.gr
  clear hD
  simp only [finAct, putAll, valsFrom, Plan.value, Act.put, List.setIfInBounds_toArray, List.set_cons_zero, List.set_cons_succ]
  replace hGl := hGl0.grown hW
  generalize β (0 + 1 + 1 + 1 + 1 + 1 + 1 + 1 + 1) = b8 at *
  repeat ((fail_if_success (with_reducible show Code.wp _ (Code.region _ _ _) _ _ _)); go_step)
  refine wp_plain [.imm (.bool true), .imm (.bool false), .imm (.bool true), .imm (.bool true), .imm (.bool true), .val (bv (u)), .val (bv (v)), .val (bv (fmul (u) (v))), .val (.int .i64 (leg (fmul (u) (v)))), .imm (.bool true), .imm (.bool true), .imm (.bool true), .imm (.bool true)] (by kernel_rfl) (fun β => ?_) (fun β w14 hD => ?_)
  · refine Obs.cons (Ob.imm rfl (fun w => by kernel_rfl)) ?_
    refine Obs.cons (Ob.imm rfl (fun w => by kernel_rfl)) ?_
    refine Obs.cons (Ob.imm rfl (fun w => by kernel_rfl)) ?_
    refine Obs.cons (Ob.imm rfl (fun w => by kernel_rfl)) ?_
    refine Obs.cons (Ob.imm (by kernel_rfl) (fun w => by kernel_rfl)) ?_
    refine Obs.cons (Ob.load (b0) 0 (bl (u)) (by kernel_rfl) rfl (by kernel_rfl) hr_b0 Tryd.underlying23 rfl (by rw [bl_length]; exact info32)) ?_
    refine Obs.cons (Ob.load (b1) 0 (bl (v)) (by kernel_rfl) rfl (by kernel_rfl) hr_b1 Tryd.underlying23 rfl (by rw [bl_length]; exact info32)) ?_
    refine Obs.cons (Ob.call 12 #[bv (u), bv (v)] (by kernel_rfl) (fun w => by kernel_rfl) (fun w hg => Mul_f (u) (v) hu hv w)) ?_
    refine Obs.cons (Ob.call 20 #[bv (fmul (u) (v))] (by kernel_rfl) (fun w => by kernel_rfl) (fun w hg => Legendre_any (fmul (u) (v)) (fmul_lt _ _) w (hGl.grown hg).g0.pw (hGl.grown hg).one)) ?_
    refine Obs.cons (Ob.imm (by kernel_rfl) (fun w => exec_eqlI rfl (leg (fmul (u) (v))) (1) (by kernel_rfl) (by kernel_rfl) true (decide_eq_true ((leg_rok h0).2 hr)))) ?_
    refine Obs.cons (Ob.imm (by kernel_rfl) (fun w => by kernel_rfl)) ?_
    refine Obs.cons (Ob.imm rfl (fun w => by kernel_rfl)) ?_
    refine Obs.cons (Ob.imm rfl (fun w => by kernel_rfl)) ?_
    exact Obs.nil
  replace hr_b0 := rangeAt_grown hr_b0 hD.gr
  replace hr_b1 := rangeAt_grown hr_b1 hD.gr
  replace hr_b2 := rangeAt_grown hr_b2 hD.gr
  replace hr_b3 := rangeAt_grown hr_b3 hD.gr
  replace hr_b4 := rangeAt_grown hr_b4 hD.gr
  replace hr_b5 := rangeAt_grown hr_b5 hD.gr
  replace hr_b6 := rangeAt_grown hr_b6 hD.gr
  replace hr_b7 := rangeAt_grown hr_b7 hD.gr
  replace hr_b8 := rangeAt_grown hr_b8 hD.gr
  replace ht_b2 := there_grown ht_b2 hD.gr
  replace ht_b3 := there_grown ht_b3 hD.gr
  replace ht_b4 := there_grown ht_b4 hD.gr
  replace ht_b5 := there_grown ht_b5 hD.gr
  replace ht_b6 := there_grown ht_b6 hD.gr
  replace ht_b7 := there_grown ht_b7 hD.gr
  replace ht_b8 := there_grown ht_b8 hD.gr
  replace hW := grown_trans hW hD.gr
  clear hD
  simp only [finAct, putAll, valsFrom, Plan.value, Act.put, List.setIfInBounds_toArray, List.set_cons_zero, List.set_cons_succ]
  replace hGl := hGl0.grown hW
  repeat go_step
  go_ret
  exact ⟨rfl, hW⟩

set_option maxRecDepth 100000 in
set_option maxHeartbeats 2000000 in
theorem Fr_no (u v : Nat) (hu : u < M) (hv : v < M) (h0 : ¬ u % p = 0) (h1 : ¬ v % p = 0) (hr : ¬ rok u v) (w : World) (hGl0 : G4 w) :
    Calls Tryd.prog 4 #[bv u, bv v] w fun e w' => e = .returned (.bool true) ∧ Grown w w' := by
  have hW := Grown.refl w
  have hGl := hGl0
  go_enter Tryd.func4, Tryd.ntmps4
  repeat ((fail_if_success (with_reducible show Code.wp _ (Code.region _ _ _) _ _ _)); go_step)
  refine wp_plain [.box 23 (bl (u)), .box 23 (bl (v)), .imm (.bool false)] (by kernel_rfl) (fun β => ?_) (fun β w1 hD => ?_)
  · refine Obs.cons (Ob.box rfl rfl (by kernel_rfl)) ?_
    refine Obs.cons (Ob.box rfl rfl (by kernel_rfl)) ?_
    refine Obs.cons (Ob.imm rfl (fun w => by kernel_rfl)) ?_
    exact Obs.nil
  obtain ⟨hf_b0, hr_b0⟩ := hD.bx 0 _ _ rfl
  replace hf_b0 := Nat.le_trans hW.2.2 hf_b0
  obtain ⟨hf_b1, hr_b1⟩ := hD.bx 1 _ _ rfl
  replace hf_b1 := Nat.le_trans hW.2.2 hf_b1
  replace hW := grown_trans hW hD.gr
  clear hD
  simp only [finAct, putAll, valsFrom, Plan.value, Act.put, List.setIfInBounds_toArray, List.set_cons_zero, List.set_cons_succ]
  replace hGl := hGl0.grown hW
  generalize β 0 = b0 at *
  generalize β (0 + 1) = b1 at *
  repeat ((fail_if_success (with_reducible show Code.wp _ (Code.region _ _ _) _ _ _)); go_step)
  refine wp_plain [.val (bv (0)), .new 23 32, .put 1 1 (fun _ => bl (0))] (by kernel_rfl) (fun β => ?_) (fun β w2 hD => ?_)
  · refine Obs.cons (Ob.call 9 #[.int .u8 (0)] rfl (fun w => by kernel_rfl) (fun w hg => number_nat 0 (by decide) 0 rfl w)) ?_
    refine Obs.cons (Ob.new _ rfl rfl zero32.1 (by simp [bl_length])) ?_
    refine Obs.cons (Ob.put 23 rfl rfl rfl (by kernel_rfl) (by kernel_rfl) (by rw [bl_length]; exact info32) (bl_one _)) ?_
    exact Obs.nil
  replace hr_b0 := rangeAt_grown hr_b0 hD.gr
  replace hr_b1 := rangeAt_grown hr_b1 hD.gr
  obtain ⟨hf_b2, ht_b2⟩ := hD.nw 1 _ _ rfl
  have hr_b2 : w2.rangeAt (β 1) 0 (bl (0)) := hD.rg 2 1 1 (fun _ => bl (0)) rfl
  replace hf_b2 := Nat.le_trans hW.2.2 hf_b2
  replace hW := grown_trans hW hD.gr
  clear hD
  simp only [finAct, putAll, valsFrom, Plan.value, Act.put, List.setIfInBounds_toArray, List.set_cons_zero, List.set_cons_succ]
  replace hGl := hGl0.grown hW
  generalize β (0 + 1) = b2 at *
  repeat ((fail_if_success (with_reducible show Code.wp _ (Code.region _ _ _) _ _ _)); go_step)
  refine wp_plain [.val (bv (1)), .new 23 32, .put 1 1 (fun _ => bl (1))] (by kernel_rfl) (fun β => ?_) (fun β w3 hD => ?_)
  · refine Obs.cons (Ob.call 9 #[.int .u8 (1)] rfl (fun w => by kernel_rfl) (fun w hg => number_nat 1 (by decide) 1 rfl w)) ?_
    refine Obs.cons (Ob.new _ rfl rfl zero32.1 (by simp [bl_length])) ?_
    refine Obs.cons (Ob.put 23 rfl rfl rfl (by kernel_rfl) (by kernel_rfl) (by rw [bl_length]; exact info32) (bl_one _)) ?_
    exact Obs.nil
  replace hr_b0 := rangeAt_grown hr_b0 hD.gr
  replace hr_b1 := rangeAt_grown hr_b1 hD.gr
  replace hr_b2 := rangeAt_grown hr_b2 hD.gr
  replace ht_b2 := there_grown ht_b2 hD.gr
  obtain ⟨hf_b3, ht_b3⟩ := hD.nw 1 _ _ rfl
  have hr_b3 : w3.rangeAt (β 1) 0 (bl (1)) := hD.rg 2 1 1 (fun _ => bl (1)) rfl
  replace hf_b3 := Nat.le_trans hW.2.2 hf_b3
  replace hW := grown_trans hW hD.gr
  clear hD
  simp only [finAct, putAll, valsFrom, Plan.value, Act.put, List.setIfInBounds_toArray, List.set_cons_zero, List.set_cons_succ]
  replace hGl := hGl0.grown hW
  generalize β (0 + 1) = b3 at *
  repeat ((fail_if_success (with_reducible show Code.wp _ (Code.region _ _ _) _ _ _)); go_step)
  refine wp_plain [.val (bv (u)), .val (bv (v)), .val (.tuple #[bv (0), .bool false]), .imm (.tuple #[bv (0), .bool false]), .imm (bv (0)), .imm (.bool false), .new 23 32, .put 6 6 (fun _ => bl (0)), .imm (.bool false)] (by kernel_rfl) (fun β => ?_) (fun β w4 hD => ?_)
  · refine Obs.cons (Ob.load (b0) 0 (bl (u)) rfl rfl (by kernel_rfl) hr_b0 Tryd.underlying23 rfl (by rw [bl_length]; exact info32)) ?_
    refine Obs.cons (Ob.load (b1) 0 (bl (v)) rfl rfl (by kernel_rfl) hr_b1 Tryd.underlying23 rfl (by rw [bl_length]; exact info32)) ?_
    refine Obs.cons (Ob.call 16 #[bv (u), bv (v)] rfl (fun w => by kernel_rfl) (fun w hg => SqrtRatio_no (u) (v) hu hv (hr) w (hGl.grown hg).g1)) ?_
    refine Obs.cons (Ob.imm rfl (fun w => by kernel_rfl)) ?_
    refine Obs.cons (Ob.imm rfl (fun w => by kernel_rfl)) ?_
    refine Obs.cons (Ob.imm rfl (fun w => by kernel_rfl)) ?_
    refine Obs.cons (Ob.new _ rfl rfl zero32.1 (by simp [bl_length])) ?_
    refine Obs.cons (Ob.put 23 rfl rfl rfl (by kernel_rfl) (by kernel_rfl) (by rw [bl_length]; exact info32) (bl_one _)) ?_
    refine Obs.cons (Ob.imm rfl (fun w => by kernel_rfl)) ?_
    exact Obs.nil
  replace hr_b0 := rangeAt_grown hr_b0 hD.gr
  replace hr_b1 := rangeAt_grown hr_b1 hD.gr
  replace hr_b2 := rangeAt_grown hr_b2 hD.gr
  replace hr_b3 := rangeAt_grown hr_b3 hD.gr
  replace ht_b2 := there_grown ht_b2 hD.gr
  replace ht_b3 := there_grown ht_b3 hD.gr
  obtain ⟨hf_b4, ht_b4⟩ := hD.nw 6 _ _ rfl
  have hr_b4 : w4.rangeAt (β 6) 0 (bl (0)) := hD.rg 7 6 6 (fun _ => bl (0)) rfl
  replace hf_b4 := Nat.le_trans hW.2.2 hf_b4
  replace hW := grown_trans hW hD.gr
  clear hD
  simp only [finAct, putAll, valsFrom, Plan.value, Act.put, List.setIfInBounds_toArray, List.set_cons_zero, List.set_cons_succ]
  replace hGl := hGl0.grown hW
  generalize β (0 + 1 + 1 + 1 + 1 + 1 + 1) = b4 at *
  repeat ((fail_if_success (with_reducible show Code.wp _ (Code.region _ _ _) _ _ _)); go_step)
  refine wp_plain [.imm (.bool false), .imm (.bool true), .imm (.bool true), .val (bv (0)), .val (bv (0)), .imm (.bool false), .imm (.bool false)] (by kernel_rfl) (fun β => ?_) (fun β w5 hD => ?_)
  · refine Obs.cons (Ob.imm rfl (fun w => by kernel_rfl)) ?_
    refine Obs.cons (Ob.imm rfl (fun w => by kernel_rfl)) ?_
    refine Obs.cons (Ob.imm rfl (fun w => by kernel_rfl)) ?_
    refine Obs.cons (Ob.load (b4) 0 (bl (0)) (by kernel_rfl) rfl (by kernel_rfl) hr_b4 Tryd.underlying23 rfl (by rw [bl_length]; exact info32)) ?_
    refine Obs.cons (Ob.load (b2) 0 (bl (0)) (by kernel_rfl) rfl (by kernel_rfl) hr_b2 Tryd.underlying23 rfl (by rw [bl_length]; exact info32)) ?_
    refine Obs.cons (Ob.imm (by kernel_rfl) (fun w => exec_neq_same rfl (0) (0) (by kernel_rfl) (by kernel_rfl) (by decide) (by decide) (rfl) w)) ?_
    refine Obs.cons (Ob.imm rfl (fun w => by kernel_rfl)) ?_
    exact Obs.nil
  replace hr_b0 := rangeAt_grown hr_b0 hD.gr
  replace hr_b1 := rangeAt_grown hr_b1 hD.gr
  replace hr_b2 := rangeAt_grown hr_b2 hD.gr
  replace hr_b3 := rangeAt_grown hr_b3 hD.gr
  replace hr_b4 := rangeAt_grown hr_b4 hD.gr
  replace ht_b2 := there_grown ht_b2 hD.gr
  replace ht_b3 := there_grown ht_b3 hD.gr
  replace ht_b4 := there_grown ht_b4 hD.gr
  replace hW := grown_trans hW hD.gr
  clear hD
  simp only [finAct, putAll, valsFrom, Plan.value, Act.put, List.setIfInBounds_toArray, List.set_cons_zero, List.set_cons_succ]
  replace hGl := hGl0.grown hW
  repeat ((fail_if_success (with_reducible show Code.wp _ (Code.region _ _ _) _ _ _)); go_step)
  replace hr_b0 := rangeAt_grown hr_b0 (gdrew w5)
  replace hr_b1 := rangeAt_grown hr_b1 (gdrew w5)
  replace hr_b2 := rangeAt_grown hr_b2 (gdrew w5)
  replace hr_b3 := rangeAt_grown hr_b3 (gdrew w5)
  replace hr_b4 := rangeAt_grown hr_b4 (gdrew w5)
  replace ht_b2 := there_grown ht_b2 (gdrew w5)
  replace ht_b3 := there_grown ht_b3 (gdrew w5)
  replace ht_b4 := there_grown ht_b4 (gdrew w5)
  replace hW := grown_trans hW (gdrew w5)
  replace hGl := hGl0.grown hW
  refine wp_loose [.val (bv (u)), .val (bv (fmul (u) (u))), .val (bv (1)), .val (.tuple #[bv (rt (fmul (u) (u)) (1)), .bool true]), .imm (.tuple #[bv (rt (fmul (u) (u)) (1)), .bool true]), .imm (bv (rt (fmul (u) (u)) (1))), .imm (.bool true), .new 23 32, .put 7 7 (fun _ => bl (rt (fmul (u) (u)) (1))), .imm (.bool true)] (by kernel_rfl) (by kernel_rfl) (fun β => ?_) (fun β w6 hD => ?_)
  · refine Obs.cons (Ob.load (b0) 0 (bl (u)) rfl rfl (by kernel_rfl) hr_b0 Tryd.underlying23 rfl (by rw [bl_length]; exact info32)) ?_
    refine Obs.cons (Ob.call 17 #[bv (u)] rfl (fun w => by kernel_rfl) (fun w hg => Square_f (u) hu w)) ?_
    refine Obs.cons (Ob.load (b3) 0 (bl (1)) rfl rfl (by kernel_rfl) hr_b3 Tryd.underlying23 rfl (by rw [bl_length]; exact info32)) ?_
    refine Obs.cons (Ob.call 16 #[bv (fmul (u) (u)), bv (1)] rfl (fun w => by kernel_rfl) (fun w hg => SqrtRatio_yes (fmul (u) (u)) (1) (fmul_lt _ _) (by decide) (rok_sq u) w (hGl.grown hg).g1)) ?_
    refine Obs.cons (Ob.imm rfl (fun w => by kernel_rfl)) ?_
    refine Obs.cons (Ob.imm rfl (fun w => by kernel_rfl)) ?_
    refine Obs.cons (Ob.imm rfl (fun w => by kernel_rfl)) ?_
    refine Obs.cons (Ob.new _ rfl rfl zero32.1 (by simp [bl_length])) ?_
    refine Obs.cons (Ob.put 23 rfl rfl rfl (by kernel_rfl) (by kernel_rfl) (by rw [bl_length]; exact info32) (bl_one _)) ?_
    refine Obs.cons (Ob.imm rfl (fun w => by kernel_rfl)) ?_
    exact Obs.nil
  replace hr_b0 := rangeAt_grown hr_b0 hD.gr
  replace hr_b1 := rangeAt_grown hr_b1 hD.gr
  replace hr_b2 := rangeAt_grown hr_b2 hD.gr
  replace hr_b3 := rangeAt_grown hr_b3 hD.gr
  replace hr_b4 := rangeAt_grown hr_b4 hD.gr
  replace ht_b2 := there_grown ht_b2 hD.gr
  replace ht_b3 := there_grown ht_b3 hD.gr
  replace ht_b4 := there_grown ht_b4 hD.gr
  obtain ⟨hf_b5, ht_b5⟩ := hD.nw 7 _ _ rfl
  have hr_b5 : w6.rangeAt (β 7) 0 (bl (rt (fmul (u) (u)) (1))) := hD.rg 8 7 7 (fun _ => bl (rt (fmul (u) (u)) (1))) rfl
  replace hf_b5 := Nat.le_trans hW.2.2 hf_b5
  replace hW := grown_trans hW hD.gr
  clear hD
  simp only [finAct, putAll, valsFrom, Plan.value, Act.put, List.setIfInBounds_toArray, List.set_cons_zero, List.set_cons_succ]
  replace hGl := hGl0.grown hW
  generalize β (0 + 1 + 1 + 1 + 1 + 1 + 1 + 1) = b5 at *
  repeat ((fail_if_success (with_reducible show Code.wp _ (Code.region _ _ _) _ _ _)); go_step)
  replace hr_b0 := rangeAt_grown hr_b0 (gdrew w6)
  replace hr_b1 := rangeAt_grown hr_b1 (gdrew w6)
  replace hr_b2 := rangeAt_grown hr_b2 (gdrew w6)
  replace hr_b3 := rangeAt_grown hr_b3 (gdrew w6)
  replace hr_b4 := rangeAt_grown hr_b4 (gdrew w6)
  replace hr_b5 := rangeAt_grown hr_b5 (gdrew w6)
  replace ht_b2 := there_grown ht_b2 (gdrew w6)
  replace ht_b3 := there_grown ht_b3 (gdrew w6)
  replace ht_b4 := there_grown ht_b4 (gdrew w6)
  replace ht_b5 := there_grown ht_b5 (gdrew w6)
  replace hW := grown_trans hW (gdrew w6)
  replace hGl := hGl0.grown hW
  refine wp_loose [.imm (.bool true), .imm (.bool false), .imm (.bool false), .val (bv (rt (fmul (u) (u)) (1))), .val (bv (fmul (rt (fmul (u) (u)) (1)) (rt (fmul (u) (u)) (1)))), .val (bv (u)), .val (bv (fmul (u) (u))), .imm (.bool false), .imm (.bool false), .imm (.bool false), .imm (.pointer (some ⟨b5, 0, none⟩)), .val (.int .u8 ((rt (fmul (u) (u)) (1)) % 256 : Nat)), .imm (.int .u8 (((rt (fmul (u) (u)) (1)) % 256) % 2 : Nat)), .imm (.bool false), .imm (.bool false)] (by kernel_rfl) (by kernel_rfl) (fun β => ?_) (fun β w7 hD => ?_)
  · refine Obs.cons (Ob.imm rfl (fun w => by kernel_rfl)) ?_
    refine Obs.cons (Ob.imm rfl (fun w => by kernel_rfl)) ?_
    refine Obs.cons (Ob.imm rfl (fun w => by kernel_rfl)) ?_
    refine Obs.cons (Ob.load (b5) 0 (bl (rt (fmul (u) (u)) (1))) (by kernel_rfl) rfl (by kernel_rfl) hr_b5 Tryd.underlying23 rfl (by rw [bl_length]; exact info32)) ?_
    refine Obs.cons (Ob.call 17 #[bv (rt (fmul (u) (u)) (1))] (by kernel_rfl) (fun w => by kernel_rfl) (fun w hg => Square_f (rt (fmul (u) (u)) (1)) (rt_M _ _) w)) ?_
    refine Obs.cons (Ob.load (b0) 0 (bl (u)) (by kernel_rfl) rfl (by kernel_rfl) hr_b0 Tryd.underlying23 rfl (by rw [bl_length]; exact info32)) ?_
    refine Obs.cons (Ob.call 17 #[bv (u)] (by kernel_rfl) (fun w => by kernel_rfl) (fun w hg => Square_f (u) hu w)) ?_
    refine Obs.cons (Ob.imm (by kernel_rfl) (fun w => exec_neq_same rfl (fmul (rt (fmul (u) (u)) (1)) (rt (fmul (u) (u)) (1))) (fmul (u) (u)) (by kernel_rfl) (by kernel_rfl) (fmul_lt _ _) (fmul_lt _ _) (rt_sq1 u) w)) ?_
    refine Obs.cons (Ob.imm rfl (fun w => by kernel_rfl)) ?_
    refine Obs.cons (Ob.imm rfl (fun w => by kernel_rfl)) ?_
    refine Obs.cons (Ob.imm (by kernel_rfl) (fun w => exec_idx 0 (by decide) rfl (by kernel_rfl) (by kernel_rfl))) ?_
    refine Obs.cons (Ob.load1 (b5) 0 (by kernel_rfl) rfl (by kernel_rfl) (block_lt_of_cell (cell_low hr_b5)) (cell_low hr_b5) (fun w h => run_load8 w h)) ?_
    refine Obs.cons (Ob.imm (by kernel_rfl) (fun w => exec_rem8' ((rt (fmul (u) (u)) (1)) % 256) rfl (by kernel_rfl) (by kernel_rfl) (Nat.mod_lt _ (by decide)))) ?_
    refine Obs.cons (Ob.imm (by kernel_rfl) (fun w => exec_eq8 (((rt (fmul (u) (u)) (1)) % 256) % 2) (1) rfl (by kernel_rfl) (by kernel_rfl) false (decide_eq_false (rt_even' (rok_sq u))))) ?_
    refine Obs.cons (Ob.imm rfl (fun w => by kernel_rfl)) ?_
    exact Obs.nil
  replace hr_b0 := rangeAt_grown hr_b0 hD.gr
  replace hr_b1 := rangeAt_grown hr_b1 hD.gr
  replace hr_b2 := rangeAt_grown hr_b2 hD.gr
  replace hr_b3 := rangeAt_grown hr_b3 hD.gr
  replace hr_b4 := rangeAt_grown hr_b4 hD.gr
  replace hr_b5 := rangeAt_grown hr_b5 hD.gr
  replace ht_b2 := there_grown ht_b2 hD.gr
  replace ht_b3 := there_grown ht_b3 hD.gr
  replace ht_b4 := there_grown ht_b4 hD.gr
  replace ht_b5 := there_grown ht_b5 hD.gr
  replace hW := grown_trans hW hD.gr
  clear hD
  simp only [finAct, putAll, valsFrom, Plan.value, Act.put, List.setIfInBounds_toArray, List.set_cons_zero, List.set_cons_succ]
  replace hGl := hGl0.grown hW
  repeat ((fail_if_success (with_reducible show Code.wp _ (Code.region _ _ _) _ _ _)); go_step)
  refine wp_plain [.val (bv (u)), .val (bv (fred (u))), .new 23 32, .put 2 2 (fun _ => bl (fred (u)))] (by kernel_rfl) (fun β => ?_) (fun β w8 hD => ?_)
  · refine Obs.cons (Ob.load (b0) 0 (bl (u)) rfl rfl (by kernel_rfl) hr_b0 Tryd.underlying23 rfl (by rw [bl_length]; exact info32)) ?_
    refine Obs.cons (Ob.call 13 #[bv (u)] rfl (fun w => by kernel_rfl) (fun w hg => Reduce_f (u) hu w)) ?_
    refine Obs.cons (Ob.new _ rfl rfl zero32.1 (by simp [bl_length])) ?_
    refine Obs.cons (Ob.put 23 rfl rfl rfl (by kernel_rfl) (by kernel_rfl) (by rw [bl_length]; exact info32) (bl_one _)) ?_
    exact Obs.nil
  replace hr_b0 := rangeAt_grown hr_b0 hD.gr
  replace hr_b1 := rangeAt_grown hr_b1 hD.gr
  replace hr_b2 := rangeAt_grown hr_b2 hD.gr
  replace hr_b3 := rangeAt_grown hr_b3 hD.gr
  replace hr_b4 := rangeAt_grown hr_b4 hD.gr
  replace hr_b5 := rangeAt_grown hr_b5 hD.gr
  replace ht_b2 := there_grown ht_b2 hD.gr
  replace ht_b3 := there_grown ht_b3 hD.gr
  replace ht_b4 := there_grown ht_b4 hD.gr
  replace ht_b5 := there_grown ht_b5 hD.gr
  obtain ⟨hf_b6, ht_b6⟩ := hD.nw 2 _ _ rfl
  have hr_b6 : w8.rangeAt (β 2) 0 (bl (fred (u))) := hD.rg 3 2 2 (fun _ => bl (fred (u))) rfl
  replace hf_b6 := Nat.le_trans hW.2.2 hf_b6
  replace hW := grown_trans hW hD.gr
  clear hD
  simp only [finAct, putAll, valsFrom, Plan.value, Act.put, List.setIfInBounds_toArray, List.set_cons_zero, List.set_cons_succ]
  replace hGl := hGl0.grown hW
  generalize β (0 + 1 + 1) = b6 at *
  repeat ((fail_if_success (with_reducible show Code.wp _ (Code.region _ _ _) _ _ _)); go_step)
  refine wp_plain [.val (bv (v)), .val (bv (fred (v))), .new 23 32, .put 2 2 (fun _ => bl (fred (v)))] (by kernel_rfl) (fun β => ?_) (fun β w9 hD => ?_)
  · refine Obs.cons (Ob.load (b1) 0 (bl (v)) rfl rfl (by kernel_rfl) hr_b1 Tryd.underlying23 rfl (by rw [bl_length]; exact info32)) ?_
    refine Obs.cons (Ob.call 13 #[bv (v)] rfl (fun w => by kernel_rfl) (fun w hg => Reduce_f (v) hv w)) ?_
    refine Obs.cons (Ob.new _ rfl rfl zero32.1 (by simp [bl_length])) ?_
    refine Obs.cons (Ob.put 23 rfl rfl rfl (by kernel_rfl) (by kernel_rfl) (by rw [bl_length]; exact info32) (bl_one _)) ?_
    exact Obs.nil
  replace hr_b0 := rangeAt_grown hr_b0 hD.gr
  replace hr_b1 := rangeAt_grown hr_b1 hD.gr
  replace hr_b2 := rangeAt_grown hr_b2 hD.gr
  replace hr_b3 := rangeAt_grown hr_b3 hD.gr
  replace hr_b4 := rangeAt_grown hr_b4 hD.gr
  replace hr_b5 := rangeAt_grown hr_b5 hD.gr
  replace hr_b6 := rangeAt_grown hr_b6 hD.gr
  replace ht_b2 := there_grown ht_b2 hD.gr
  replace ht_b3 := there_grown ht_b3 hD.gr
  replace ht_b4 := there_grown ht_b4 hD.gr
  replace ht_b5 := there_grown ht_b5 hD.gr
  replace ht_b6 := there_grown ht_b6 hD.gr
  obtain ⟨hf_b7, ht_b7⟩ := hD.nw 2 _ _ rfl
  have hr_b7 : w9.rangeAt (β 2) 0 (bl (fred (v))) := hD.rg 3 2 2 (fun _ => bl (fred (v))) rfl
  replace hf_b7 := Nat.le_trans hW.2.2 hf_b7
  replace hW := grown_trans hW hD.gr
  clear hD
  simp only [finAct, putAll, valsFrom, Plan.value, Act.put, List.setIfInBounds_toArray, List.set_cons_zero, List.set_cons_succ]
  replace hGl := hGl0.grown hW
  generalize β (0 + 1 + 1) = b7 at *
  repeat ((fail_if_success (with_reducible show Code.wp _ (Code.region _ _ _) _ _ _)); go_step)
  refine wp_plain [.val (bv (fred (u))), .val (bv (0)), .imm (.bool false)] (by kernel_rfl) (fun β => ?_) (fun β w10 hD => ?_)
  · refine Obs.cons (Ob.load (b6) 0 (bl (fred (u))) rfl rfl (by kernel_rfl) hr_b6 Tryd.underlying23 rfl (by rw [bl_length]; exact info32)) ?_
    refine Obs.cons (Ob.load (b2) 0 (bl (0)) rfl rfl (by kernel_rfl) hr_b2 Tryd.underlying23 rfl (by rw [bl_length]; exact info32)) ?_
    refine Obs.cons (Ob.imm rfl (fun w => exec_eql_apart rfl (fred (u)) (0) (by kernel_rfl) (by kernel_rfl) (fred_lt _) (by decide) (h0) w)) ?_
    exact Obs.nil
  replace hr_b0 := rangeAt_grown hr_b0 hD.gr
  replace hr_b1 := rangeAt_grown hr_b1 hD.gr
  replace hr_b2 := rangeAt_grown hr_b2 hD.gr
  replace hr_b3 := rangeAt_grown hr_b3 hD.gr
  replace hr_b4 := rangeAt_grown hr_b4 hD.gr
  replace hr_b5 := rangeAt_grown hr_b5 hD.gr
  replace hr_b6 := rangeAt_grown hr_b6 hD.gr
  replace hr_b7 := rangeAt_grown hr_b7 hD.gr
  replace ht_b2 := there_grown ht_b2 hD.gr
  replace ht_b3 := there_grown ht_b3 hD.gr
  replace ht_b4 := there_grown ht_b4 hD.gr
  replace ht_b5 := there_grown ht_b5 hD.gr
  replace ht_b6 := there_grown ht_b6 hD.gr
  replace ht_b7 := there_grown ht_b7 hD.gr
  replace hW := grown_trans hW hD.gr
  clear hD
  simp only [finAct, putAll, valsFrom, Plan.value, Act.put, List.setIfInBounds_toArray, List.set_cons_zero, List.set_cons_succ]
  replace hGl := hGl0.grown hW
  repeat ((fail_if_success (with_reducible show Code.wp _ (Code.region _ _ _) _ _ _)); go_step)
  refine wp_plain [.val (bv (fred (v))), .val (bv (0)), .imm (.bool false)] (by kernel_rfl) (fun β => ?_) (fun β w11 hD => ?_)
  · refine Obs.cons (Ob.load (b7) 0 (bl (fred (v))) rfl rfl (by kernel_rfl) hr_b7 Tryd.underlying23 rfl (by rw [bl_length]; exact info32)) ?_
    refine Obs.cons (Ob.load (b2) 0 (bl (0)) rfl rfl (by kernel_rfl) hr_b2 Tryd.underlying23 rfl (by rw [bl_length]; exact info32)) ?_
    refine Obs.cons (Ob.imm rfl (fun w => exec_eql_apart rfl (fred (v)) (0) (by kernel_rfl) (by kernel_rfl) (fred_lt _) (by decide) (h1) w)) ?_
    exact Obs.nil
  replace hr_b0 := rangeAt_grown hr_b0 hD.gr
  replace hr_b1 := rangeAt_grown hr_b1 hD.gr
  replace hr_b2 := rangeAt_grown hr_b2 hD.gr
  replace hr_b3 := rangeAt_grown hr_b3 hD.gr
  replace hr_b4 := rangeAt_grown hr_b4 hD.gr
  replace hr_b5 := rangeAt_grown hr_b5 hD.gr
  replace hr_b6 := rangeAt_grown hr_b6 hD.gr
  replace hr_b7 := rangeAt_grown hr_b7 hD.gr
  replace ht_b2 := there_grown ht_b2 hD.gr
  replace ht_b3 := there_grown ht_b3 hD.gr
  replace ht_b4 := there_grown ht_b4 hD.gr
  replace ht_b5 := there_grown ht_b5 hD.gr
  replace ht_b6 := there_grown ht_b6 hD.gr
  replace ht_b7 := there_grown ht_b7 hD.gr
  replace hW := grown_trans hW hD.gr
  clear hD
  simp only [finAct, putAll, valsFrom, Plan.value, Act.put, List.setIfInBounds_toArray, List.set_cons_zero, List.set_cons_succ]
  replace hGl := hGl0.grown hW
  repeat ((fail_if_success (with_reducible show Code.wp _ (Code.region _ _ _) _ _ _)); go_step)
  replace hr_b0 := rangeAt_grown hr_b0 (gdrew w11)
  replace hr_b1 := rangeAt_grown hr_b1 (gdrew w11)
  replace hr_b2 := rangeAt_grown hr_b2 (gdrew w11)
  replace hr_b3 := rangeAt_grown hr_b3 (gdrew w11)
  replace hr_b4 := rangeAt_grown hr_b4 (gdrew w11)
  replace hr_b5 := rangeAt_grown hr_b5 (gdrew w11)
  replace hr_b6 := rangeAt_grown hr_b6 (gdrew w11)
  replace hr_b7 := rangeAt_grown hr_b7 (gdrew w11)
  replace ht_b2 := there_grown ht_b2 (gdrew w11)
  replace ht_b3 := there_grown ht_b3 (gdrew w11)
  replace ht_b4 := there_grown ht_b4 (gdrew w11)
  replace ht_b5 := there_grown ht_b5 (gdrew w11)
  replace ht_b6 := there_grown ht_b6 (gdrew w11)
  replace ht_b7 := there_grown ht_b7 (gdrew w11)
  replace hW := grown_trans hW (gdrew w11)
  replace hGl := hGl0.grown hW
  refine wp_loose [.imm (.bool false), .imm (.bool false), .skip, .skip, .skip, .skip, .skip, .skip, .skip, .skip, .skip, .skip, .skip, .skip, .skip, .skip, .skip, .skip, .skip, .imm (.bool false)] (by kernel_rfl) (by kernel_rfl) (fun β => ?_) (fun β w12 hD => ?_)
  · refine Obs.cons (Ob.imm rfl (fun w => by kernel_rfl)) ?_
    refine Obs.cons (Ob.imm rfl (fun w => by kernel_rfl)) ?_
    refine Obs.cons (Ob.skip (by kernel_rfl)) ?_
    refine Obs.cons (Ob.skip (by kernel_rfl)) ?_
    refine Obs.cons (Ob.skip (by kernel_rfl)) ?_
    refine Obs.cons (Ob.skip (by kernel_rfl)) ?_
    refine Obs.cons (Ob.skip (by kernel_rfl)) ?_
    refine Obs.cons (Ob.skip (by kernel_rfl)) ?_
    refine Obs.cons (Ob.skip (by kernel_rfl)) ?_
    refine Obs.cons (Ob.skip (by kernel_rfl)) ?_
    refine Obs.cons (Ob.skip (by kernel_rfl)) ?_
    refine Obs.cons (Ob.skip (by kernel_rfl)) ?_
    refine Obs.cons (Ob.skip (by kernel_rfl)) ?_
    refine Obs.cons (Ob.skip (by kernel_rfl)) ?_
    refine Obs.cons (Ob.skip (by kernel_rfl)) ?_
    refine Obs.cons (Ob.skip (by kernel_rfl)) ?_
    refine Obs.cons (Ob.skip (by kernel_rfl)) ?_
    refine Obs.cons (Ob.skip (by kernel_rfl)) ?_
    refine Obs.cons (Ob.skip (by kernel_rfl)) ?_
    refine Obs.cons (Ob.imm rfl (fun w => by kernel_rfl)) ?_
    exact Obs.nil
  replace hr_b0 := rangeAt_grown hr_b0 hD.gr
  replace hr_b1 := rangeAt_grown hr_b1 hD.gr
  replace hr_b2 := rangeAt_grown hr_b2 hD.gr
  replace hr_b3 := rangeAt_grown hr_b3 hD.gr
  replace hr_b4 := rangeAt_grown hr_b4 hD.gr
  replace hr_b5 := rangeAt_grown hr_b5 hD.gr
  replace hr_b6 := rangeAt_grown hr_b6 hD.gr
  replace hr_b7 := rangeAt_grown hr_b7 hD.gr
  replace ht_b2 := there_grown ht_b2 hD.gr
  replace ht_b3 := there_grown ht_b3 hD.gr
  replace ht_b4 := there_grown ht_b4 hD.gr
  replace ht_b5 := there_grown ht_b5 hD.gr
  replace ht_b6 := there_grown ht_b6 hD.gr
  replace ht_b7 := there_grown ht_b7 hD.gr
  replace hW := grown_trans hW hD.gr
  clear hD
  simp only [finAct, putAll, valsFrom, Plan.value, Act.put, List.setIfInBounds_toArray, List.set_cons_zero, List.set_cons_succ]
  replace hGl := hGl0.grown hW
  repeat ((fail_if_success (with_reducible show Code.wp _ (Code.region _ _ _) _ _ _)); go_step)
  replace hr_b0 := rangeAt_grown hr_b0 (gdrew w12)
  replace hr_b1 := rangeAt_grown hr_b1 (gdrew w12)
  replace hr_b2 := rangeAt_grown hr_b2 (gdrew w12)
  replace hr_b3 := rangeAt_grown hr_b3 (gdrew w12)
  replace hr_b4 := rangeAt_grown hr_b4 (gdrew w12)
  replace hr_b5 := rangeAt_grown hr_b5 (gdrew w12)
  replace hr_b6 := rangeAt_grown hr_b6 (gdrew w12)
  replace hr_b7 := rangeAt_grown hr_b7 (gdrew w12)
  replace ht_b2 := there_grown ht_b2 (gdrew w12)
  replace ht_b3 := there_grown ht_b3 (gdrew w12)
  replace ht_b4 := there_grown ht_b4 (gdrew w12)
  replace ht_b5 := there_grown ht_b5 (gdrew w12)
  replace ht_b6 := there_grown ht_b6 (gdrew w12)
  replace ht_b7 := there_grown ht_b7 (gdrew w12)
  replace hW := grown_trans hW (gdrew w12)
  replace hGl := hGl0.grown hW
  refine wp_loose [.val (bv (u)), .val (bv (u)), .val (bv (fadd (u) (u))), .val (bv (v)), .val (.tuple #[bv (rt (fadd (u) (u)) (v)), .bool true]), .imm (.tuple #[bv (rt (fadd (u) (u)) (v)), .bool true]), .imm (bv (rt (fadd (u) (u)) (v))), .imm (.bool true), .new 23 32, .put 8 8 (fun _ => bl (rt (fadd (u) (u)) (v))), .imm (.bool true)] (by kernel_rfl) (by kernel_rfl) (fun β => ?_) (fun β w13 hD => ?_)
  · refine Obs.cons (Ob.load (b0) 0 (bl (u)) rfl rfl (by kernel_rfl) hr_b0 Tryd.underlying23 rfl (by rw [bl_length]; exact info32)) ?_
    refine Obs.cons (Ob.load (b0) 0 (bl (u)) rfl rfl (by kernel_rfl) hr_b0 Tryd.underlying23 rfl (by rw [bl_length]; exact info32)) ?_
    refine Obs.cons (Ob.call 19 #[bv (u), bv (u)] rfl (fun w => by kernel_rfl) (fun w hg => Add_f (u) (u) hu hu w)) ?_
    refine Obs.cons (Ob.load (b1) 0 (bl (v)) rfl rfl (by kernel_rfl) hr_b1 Tryd.underlying23 rfl (by rw [bl_length]; exact info32)) ?_
    refine Obs.cons (Ob.call 16 #[bv (fadd (u) (u)), bv (v)] rfl (fun w => by kernel_rfl) (fun w hg => SqrtRatio_yes (fadd (u) (u)) (v) (fadd_lt _ _) hv ((rok_twice h0 h1).2 hr) w (hGl.grown hg).g1)) ?_
    refine Obs.cons (Ob.imm rfl (fun w => by kernel_rfl)) ?_
    refine Obs.cons (Ob.imm rfl (fun w => by kernel_rfl)) ?_
    refine Obs.cons (Ob.imm rfl (fun w => by kernel_rfl)) ?_
    refine Obs.cons (Ob.new _ rfl rfl zero32.1 (by simp [bl_length])) ?_
    refine Obs.cons (Ob.put 23 rfl rfl rfl (by kernel_rfl) (by kernel_rfl) (by rw [bl_length]; exact info32) (bl_one _)) ?_
    refine Obs.cons (Ob.imm rfl (fun w => by kernel_rfl)) ?_
    exact Obs.nil
  replace hr_b0 := rangeAt_grown hr_b0 hD.gr
  replace hr_b1 := rangeAt_grown hr_b1 hD.gr
  replace hr_b2 := rangeAt_grown hr_b2 hD.gr
  replace hr_b3 := rangeAt_grown hr_b3 hD.gr
  replace hr_b4 := rangeAt_grown hr_b4 hD.gr
  replace hr_b5 := rangeAt_grown hr_b5 hD.gr
  replace hr_b6 := rangeAt_grown hr_b6 hD.gr
  replace hr_b7 := rangeAt_grown hr_b7 hD.gr
  replace ht_b2 := there_grown ht_b2 hD.gr
  replace ht_b3 := there_grown ht_b3 hD.gr
  replace ht_b4 := there_grown ht_b4 hD.gr
  replace ht_b5 := there_grown ht_b5 hD.gr
  replace ht_b6 := there_grown ht_b6 hD.gr
  replace ht_b7 := there_grown ht_b7 hD.gr
  obtain ⟨hf_b8, ht_b8⟩ := hD.nw 8 _ _ rfl
  have hr_b8 : w13.rangeAt (β 8) 0 (bl (rt (fadd (u) (u)) (v))) := hD.rg 9 8 8 (fun _ => bl (rt (fadd (u) (u)) (v))) rfl
  replace hf_b8 := Nat.le_trans hW.2.2 hf_b8
  replace hW := grown_trans hW hD.gr
  clear hD
  simp only [finAct, putAll, valsFrom, Plan.value, Act.put, List.setIfInBounds_toArray, List.set_cons_zero, List.set_cons_succ]
  replace hGl := hGl0.grown hW
  generalize β (0 + 1 + 1 + 1 + 1 + 1 + 1 + 1 + 1) = b8 at *
  repeat ((fail_if_success (with_reducible show Code.wp _ (Code.region _ _ _) _ _ _)); go_step)
  refine wp_plain [.imm (.bool false), .imm (.bool true), .imm (.bool true), .imm (.bool true), .imm (.bool false), .val (bv (u)), .val (bv (v)), .val (bv (fmul (u) (v))), .val (.int .i64 (leg (fmul (u) (v)))), .imm (.bool false), .imm (.bool true), .imm (.bool true), .imm (.bool true)] (by kernel_rfl) (fun β => ?_) (fun β w14 hD => ?_)
  · refine Obs.cons (Ob.imm rfl (fun w => by kernel_rfl)) ?_
    refine Obs.cons (Ob.imm rfl (fun w => by kernel_rfl)) ?_
    refine Obs.cons (Ob.imm rfl (fun w => by kernel_rfl)) ?_
    refine Obs.cons (Ob.imm rfl (fun w => by kernel_rfl)) ?_
    refine Obs.cons (Ob.imm (by kernel_rfl) (fun w => by kernel_rfl)) ?_
    refine Obs.cons (Ob.load (b0) 0 (bl (u)) (by kernel_rfl) rfl (by kernel_rfl) hr_b0 Tryd.underlying23 rfl (by rw [bl_length]; exact info32)) ?_
    refine Obs.cons (Ob.load (b1) 0 (bl (v)) (by kernel_rfl) rfl (by kernel_rfl) hr_b1 Tryd.underlying23 rfl (by rw [bl_length]; exact info32)) ?_
    refine Obs.cons (Ob.call 12 #[bv (u), bv (v)] (by kernel_rfl) (fun w => by kernel_rfl) (fun w hg => Mul_f (u) (v) hu hv w)) ?_
    refine Obs.cons (Ob.call 20 #[bv (fmul (u) (v))] (by kernel_rfl) (fun w => by kernel_rfl) (fun w hg => Legendre_any (fmul (u) (v)) (fmul_lt _ _) w (hGl.grown hg).g0.pw (hGl.grown hg).one)) ?_
    refine Obs.cons (Ob.imm (by kernel_rfl) (fun w => exec_eqlI rfl (leg (fmul (u) (v))) (1) (by kernel_rfl) (by kernel_rfl) false (decide_eq_false (fun h => hr ((leg_rok h0).1 h))))) ?_
    refine Obs.cons (Ob.imm (by kernel_rfl) (fun w => by kernel_rfl)) ?_
    refine Obs.cons (Ob.imm rfl (fun w => by kernel_rfl)) ?_
    refine Obs.cons (Ob.imm rfl (fun w => by kernel_rfl)) ?_
    exact Obs.nil
  replace hr_b0 := rangeAt_grown hr_b0 hD.gr
  replace hr_b1 := rangeAt_grown hr_b1 hD.gr
  replace hr_b2 := rangeAt_grown hr_b2 hD.gr
  replace hr_b3 := rangeAt_grown hr_b3 hD.gr
  replace hr_b4 := rangeAt_grown hr_b4 hD.gr
  replace hr_b5 := rangeAt_grown hr_b5 hD.gr
  replace hr_b6 := rangeAt_grown hr_b6 hD.gr
  replace hr_b7 := rangeAt_grown hr_b7 hD.gr
  replace hr_b8 := rangeAt_grown hr_b8 hD.gr
  replace ht_b2 := there_grown ht_b2 hD.gr
  replace ht_b3 := there_grown ht_b3 hD.gr
  replace ht_b4 := there_grown ht_b4 hD.gr
  replace ht_b5 := there_grown ht_b5 hD.gr
  replace ht_b6 := there_grown ht_b6 hD.gr
  replace ht_b7 := there_grown ht_b7 hD.gr
  replace ht_b8 := there_grown ht_b8 hD.gr
  replace hW := grown_trans hW hD.gr
  clear hD
  simp only [finAct, putAll, valsFrom, Plan.value, Act.put, List.setIfInBounds_toArray, List.set_cons_zero, List.set_cons_succ]
  replace hGl := hGl0.grown hW
  repeat go_step
  go_ret
  exact ⟨rfl, hW⟩

end Go.Proofs.YtoimglbjepppmaaDoor
