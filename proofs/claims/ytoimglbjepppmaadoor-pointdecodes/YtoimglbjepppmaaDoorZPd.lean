import Derived.Test.YtoimglbjepppmaaDoorZQx
import Derived.Test.YtoimglbjepppmaaDoorMk
namespace Go.Proofs.YtoimglbjepppmaaDoor
open Go.RowKit Go.Shelf FieldNum

set_option maxRecDepth 100000 in
set_option maxHeartbeats 2000000 in
theorem alike_1 (x y : Nat) (hx : x < M) (hy : y < M) (w : World) : Calls Tryd.prog 21 #[pv x y, pv x y] w fun e w' => e = .returned (.bool true) ∧ Grown w w' := by
  have hW := Grown.refl w
  go_enter Tryd.func21, Tryd.ntmps21
  repeat ((fail_if_success (with_reducible show Code.wp _ (Code.region _ _ _) _ _ _)); go_step)
  refine wp_plain [.box 37 (pcs (x) (y)), .box 39 (pcs (x) (y)), .imm (.bool false)] (by kernel_rfl) (fun β => ?_) (fun β w1 hD => ?_)
  · refine Obs.cons (Ob.box rfl rfl (by kernel_rfl)) ?_
    refine Obs.cons (Ob.box rfl rfl (by kernel_rfl)) ?_
    refine Obs.cons (Ob.imm rfl (fun w => by kernel_rfl)) ?_
    exact Obs.nil
  obtain ⟨hf_b0, hr_b0⟩ := hD.bx 0 _ _ rfl
  replace hf_b0 := Nat.le_trans hW.2.2 hf_b0
  obtain ⟨hf_b1, hr_b1⟩ := hD.bx 1 _ _ rfl
  replace hf_b1 := Nat.le_trans hW.2.2 hf_b1
  replace hW := grown_trans hW hD.gr
  clear hD
  simp only [finAct, putAll, valsFrom, Plan.value, Act.put, List.setIfInBounds_toArray, List.set_cons_zero, List.set_cons_succ]
  generalize β 0 = b0 at *
  generalize β (0 + 1) = b1 at *
  have hr_b0x : w1.rangeAt b0 0 (bl (x)) := rangeAt_left hr_b0
  have hr_b0y : w1.rangeAt b0 32 (bl (y)) := rangeAt_right 32 (bl_length _) hr_b0
  have hr_b1x : w1.rangeAt b1 0 (bl (x)) := rangeAt_left hr_b1
  have hr_b1y : w1.rangeAt b1 32 (bl (y)) := rangeAt_right 32 (bl_length _) hr_b1
  repeat ((fail_if_success (with_reducible show Code.wp _ (Code.region _ _ _) _ _ _)); go_step)
  refine wp_plain [.imm (.pointer (some ⟨b0, 0, none⟩)), .val (bv (x)), .imm (.pointer (some ⟨b1, 0, none⟩)), .val (bv (x)), .imm (.bool true), .imm (.bool true), .imm (.pointer (some ⟨b0, 32, none⟩)), .val (bv (y)), .imm (.pointer (some ⟨b1, 32, none⟩)), .val (bv (y)), .imm (.bool true), .imm (.bool true), .imm (.bool true)] (by kernel_rfl) (fun β => ?_) (fun β w2 hD => ?_)
  · refine Obs.cons (Ob.imm rfl (fun w => by kernel_rfl)) ?_
    refine Obs.cons (Ob.load (b0) 0 (bl (x)) rfl rfl (by kernel_rfl) hr_b0x Tryd.underlying23 rfl (by rw [bl_length]; exact info32)) ?_
    refine Obs.cons (Ob.imm rfl (fun w => by kernel_rfl)) ?_
    refine Obs.cons (Ob.load (b1) 0 (bl (x)) rfl rfl (by kernel_rfl) hr_b1x Tryd.underlying23 rfl (by rw [bl_length]; exact info32)) ?_
    refine Obs.cons (Ob.imm rfl (fun w => exec_eql_same rfl (x) (x) (by kernel_rfl) (by kernel_rfl) hx hx (rfl) w)) ?_
    refine Obs.cons (Ob.imm rfl (fun w => by kernel_rfl)) ?_
    refine Obs.cons (Ob.imm (by kernel_rfl) (fun w => by kernel_rfl)) ?_
    refine Obs.cons (Ob.load (b0) 32 (bl (y)) (by kernel_rfl) rfl (by kernel_rfl) hr_b0y Tryd.underlying23 rfl (by rw [bl_length]; exact info32)) ?_
    refine Obs.cons (Ob.imm (by kernel_rfl) (fun w => by kernel_rfl)) ?_
    refine Obs.cons (Ob.load (b1) 32 (bl (y)) (by kernel_rfl) rfl (by kernel_rfl) hr_b1y Tryd.underlying23 rfl (by rw [bl_length]; exact info32)) ?_
    refine Obs.cons (Ob.imm (by kernel_rfl) (fun w => exec_eql_same rfl (y) (y) (by kernel_rfl) (by kernel_rfl) hy hy (rfl) w)) ?_
    refine Obs.cons (Ob.imm rfl (fun w => by kernel_rfl)) ?_
    refine Obs.cons (Ob.imm rfl (fun w => by kernel_rfl)) ?_
    exact Obs.nil
  replace hr_b0 := rangeAt_grown hr_b0 hD.gr
  replace hr_b0x := rangeAt_grown hr_b0x hD.gr
  replace hr_b0y := rangeAt_grown hr_b0y hD.gr
  replace hr_b1 := rangeAt_grown hr_b1 hD.gr
  replace hr_b1x := rangeAt_grown hr_b1x hD.gr
  replace hr_b1y := rangeAt_grown hr_b1y hD.gr
  replace hW := grown_trans hW hD.gr
  clear hD
  simp only [finAct, putAll, valsFrom, Plan.value, Act.put, List.setIfInBounds_toArray, List.set_cons_zero, List.set_cons_succ]
  repeat go_step
  go_ret
  exact ⟨rfl, hW⟩

def GD (w : World) : Prop := G3 w ∧ GR w
theorem GD.grown {w w' : World} (h : GD w) (hg : Grown w w') : GD w' := ⟨h.1.grown hg, h.2.grown hg⟩

set_option maxRecDepth 100000 in
set_option maxHeartbeats 2000000 in
theorem Pd_high0 (b : Nat) (hb : b < M) (hs :  b < H) (hy : ¬ b % H < p) (w : World) (hGl0 : GD w) :
    Calls Tryd.prog 7 #[bv b] w fun e w' => e = .returned (.bool true) ∧ Grown w w' := by
  have hW := Grown.refl w
  have hGl := hGl0
  go_enter Tryd.func7, Tryd.ntmps7
  repeat ((fail_if_success (with_reducible show Code.wp _ (Code.region _ _ _) _ _ _)); go_step)
  refine wp_plain [.box 23 (bl (b)), .imm (.bool false)] (by kernel_rfl) (fun β => ?_) (fun β w1 hD => ?_)
  · refine Obs.cons (Ob.box rfl rfl (by kernel_rfl)) ?_
    refine Obs.cons (Ob.imm rfl (fun w => by kernel_rfl)) ?_
    exact Obs.nil
  obtain ⟨hf_b0, hr_b0⟩ := hD.bx 0 _ _ rfl
  replace hf_b0 := Nat.le_trans hW.2.2 hf_b0
  replace hW := grown_trans hW hD.gr
  clear hD
  simp only [finAct, putAll, valsFrom, Plan.value, Act.put, List.setIfInBounds_toArray, List.set_cons_zero, List.set_cons_succ]
  replace hGl := hGl0.grown hW
  generalize β 0 = b0 at *
  repeat ((fail_if_success (with_reducible show Code.wp _ (Code.region _ _ _) _ _ _)); go_step)
  refine wp_plain [.val (bv (b)), .val (.tuple #[pv (0) (0), .int .i64 (40)]), .imm (.tuple #[pv (0) (0), .int .i64 (40)]), .imm (pv (0) (0)), .imm (.int .i64 (40)), .new 37 64, .put 5 5 (fun _ => pcs (0) (0)), .imm (.int .i64 (40))] (by kernel_rfl) (fun β => ?_) (fun β w2 hD => ?_)
  · refine Obs.cons (Ob.load (b0) 0 (bl (b)) rfl rfl (by kernel_rfl) hr_b0 Tryd.underlying23 rfl (by rw [bl_length]; exact info32)) ?_
    refine Obs.cons (Ob.call 28 #[bv (b)] rfl (fun w => by kernel_rfl) (fun w hg => D_high0 b hb hs hy w (hGl.1.grown hg))) ?_
    refine Obs.cons (Ob.imm rfl (fun w => by kernel_rfl)) ?_
    refine Obs.cons (Ob.imm rfl (fun w => by kernel_rfl)) ?_
    refine Obs.cons (Ob.imm rfl (fun w => by kernel_rfl)) ?_
    refine Obs.cons (Ob.new _ rfl rfl zeroP (by simp [pcs_length])) ?_
    refine Obs.cons (Ob.put 37 rfl rfl rfl (by kernel_rfl) (by kernel_rfl) (by rw [pcs_length]; exact infoP) (pcs_one _ _)) ?_
    refine Obs.cons (Ob.imm rfl (fun w => by kernel_rfl)) ?_
    exact Obs.nil
  replace hr_b0 := rangeAt_grown hr_b0 hD.gr
  obtain ⟨hf_b1, ht_b1⟩ := hD.nw 5 _ _ rfl
  have hr_b1 : w2.rangeAt (β 5) 0 (pcs (0) (0)) := hD.rg 6 5 5 (fun _ => pcs (0) (0)) rfl
  replace hf_b1 := Nat.le_trans hW.2.2 hf_b1
  replace hW := grown_trans hW hD.gr
  clear hD
  simp only [finAct, putAll, valsFrom, Plan.value, Act.put, List.setIfInBounds_toArray, List.set_cons_zero, List.set_cons_succ]
  replace hGl := hGl0.grown hW
  generalize β (0 + 1 + 1 + 1 + 1 + 1) = b1 at *
  have hr_b1x : w2.rangeAt b1 0 (bl (0)) := rangeAt_left hr_b1
  have hr_b1y : w2.rangeAt b1 32 (bl (0)) := rangeAt_right 32 (bl_length _) hr_b1
  repeat ((fail_if_success (with_reducible show Code.wp _ (Code.region _ _ _) _ _ _)); go_step)
  refine wp_plain [.val (bv (b)), .val (.tuple #[pv (0) (0), .int .i64 (40)]), .imm (.tuple #[pv (0) (0), .int .i64 (40)]), .imm (pv (0) (0)), .imm (.int .i64 (40)), .new 39 64, .put 5 5 (fun _ => pcs (0) (0)), .imm (.int .i64 (40))] (by kernel_rfl) (fun β => ?_) (fun β w3 hD => ?_)
  · refine Obs.cons (Ob.load (b0) 0 (bl (b)) rfl rfl (by kernel_rfl) hr_b0 Tryd.underlying23 rfl (by rw [bl_length]; exact info32)) ?_
    refine Obs.cons (Ob.call 36 #[bv (b)] rfl (fun w => by kernel_rfl) (fun w hg => RD_high0 b hb hs hy w (hGl.2.grown hg))) ?_
    refine Obs.cons (Ob.imm rfl (fun w => by kernel_rfl)) ?_
    refine Obs.cons (Ob.imm rfl (fun w => by kernel_rfl)) ?_
    refine Obs.cons (Ob.imm rfl (fun w => by kernel_rfl)) ?_
    refine Obs.cons (Ob.new _ rfl rfl zeroQ (by simp [pcs_length])) ?_
    refine Obs.cons (Ob.put 39 rfl rfl rfl (by kernel_rfl) (by kernel_rfl) (by rw [pcs_length]; exact infoQ) (pcs_one _ _)) ?_
    refine Obs.cons (Ob.imm rfl (fun w => by kernel_rfl)) ?_
    exact Obs.nil
  replace hr_b0 := rangeAt_grown hr_b0 hD.gr
  replace hr_b1 := rangeAt_grown hr_b1 hD.gr
  replace hr_b1x := rangeAt_grown hr_b1x hD.gr
  replace hr_b1y := rangeAt_grown hr_b1y hD.gr
  replace ht_b1 := there_grown ht_b1 hD.gr
  obtain ⟨hf_b2, ht_b2⟩ := hD.nw 5 _ _ rfl
  have hr_b2 : w3.rangeAt (β 5) 0 (pcs (0) (0)) := hD.rg 6 5 5 (fun _ => pcs (0) (0)) rfl
  replace hf_b2 := Nat.le_trans hW.2.2 hf_b2
  replace hW := grown_trans hW hD.gr
  clear hD
  simp only [finAct, putAll, valsFrom, Plan.value, Act.put, List.setIfInBounds_toArray, List.set_cons_zero, List.set_cons_succ]
  replace hGl := hGl0.grown hW
  generalize β (0 + 1 + 1 + 1 + 1 + 1) = b2 at *
  have hr_b2x : w3.rangeAt b2 0 (bl (0)) := rangeAt_left hr_b2
  have hr_b2y : w3.rangeAt b2 32 (bl (0)) := rangeAt_right 32 (bl_length _) hr_b2
  repeat ((fail_if_success (with_reducible show Code.wp _ (Code.region _ _ _) _ _ _)); go_step)
  refine wp_plain [.val (pv (0) (0)), .val (pv (0) (0)), .val (.bool true), .imm (.bool true), .imm (.int .i64 (40)), .val (.int .i64 (40)), .imm (.int .i64 (40)), .imm (.bool true), .imm (.bool true), .imm (.bool true)] (by kernel_rfl) (fun β => ?_) (fun β w4 hD => ?_)
  · refine Obs.cons (Ob.load (b1) 0 (pcs (0) (0)) rfl rfl (by kernel_rfl) hr_b1 Tryd.underlying37 rfl (by rw [pcs_length]; exact infoP)) ?_
    refine Obs.cons (Ob.load (b2) 0 (pcs (0) (0)) rfl rfl (by kernel_rfl) hr_b2 Tryd.underlying39 rfl (by rw [pcs_length]; exact infoQ)) ?_
    refine Obs.cons (Ob.call 21 #[pv (0) (0), pv (0) (0)] rfl (fun w => by kernel_rfl) (fun w hg => alike_1 (0) (0) (by decide) (by decide) w)) ?_
    refine Obs.cons (Ob.imm rfl (fun w => by kernel_rfl)) ?_
    refine Obs.cons (Ob.imm (by kernel_rfl) (fun w => by kernel_rfl)) ?_
    refine Obs.cons (Ob.call 32 #[.int .i64 (40)] (by kernel_rfl) (fun w => by kernel_rfl) (fun w hg => num_is (40) w)) ?_
    refine Obs.cons (Ob.imm (by kernel_rfl) (fun w => by kernel_rfl)) ?_
    refine Obs.cons (Ob.imm (by kernel_rfl) (fun w => by kernel_rfl)) ?_
    refine Obs.cons (Ob.imm rfl (fun w => by kernel_rfl)) ?_
    refine Obs.cons (Ob.imm rfl (fun w => by kernel_rfl)) ?_
    exact Obs.nil
  replace hr_b0 := rangeAt_grown hr_b0 hD.gr
  replace hr_b1 := rangeAt_grown hr_b1 hD.gr
  replace hr_b1x := rangeAt_grown hr_b1x hD.gr
  replace hr_b1y := rangeAt_grown hr_b1y hD.gr
  replace hr_b2 := rangeAt_grown hr_b2 hD.gr
  replace hr_b2x := rangeAt_grown hr_b2x hD.gr
  replace hr_b2y := rangeAt_grown hr_b2y hD.gr
  replace ht_b1 := there_grown ht_b1 hD.gr
  replace ht_b2 := there_grown ht_b2 hD.gr
  replace hW := grown_trans hW hD.gr
  clear hD
  simp only [finAct, putAll, valsFrom, Plan.value, Act.put, List.setIfInBounds_toArray, List.set_cons_zero, List.set_cons_succ]
  replace hGl := hGl0.grown hW
  repeat go_step
  go_ret
  exact ⟨rfl, hW⟩

set_option maxRecDepth 100000 in
set_option maxHeartbeats 2000000 in
theorem Pd_none0 (b : Nat) (hb : b < M) (hs :  b < H) (hy : b % H < p) (hr : ¬ rok (uu (b % H)) (vv (b % H))) (w : World) (hGl0 : GD w) :
    Calls Tryd.prog 7 #[bv b] w fun e w' => e = .returned (.bool true) ∧ Grown w w' := by
  have hW := Grown.refl w
  have hGl := hGl0
  go_enter Tryd.func7, Tryd.ntmps7
  repeat ((fail_if_success (with_reducible show Code.wp _ (Code.region _ _ _) _ _ _)); go_step)
  refine wp_plain [.box 23 (bl (b)), .imm (.bool false)] (by kernel_rfl) (fun β => ?_) (fun β w1 hD => ?_)
  · refine Obs.cons (Ob.box rfl rfl (by kernel_rfl)) ?_
    refine Obs.cons (Ob.imm rfl (fun w => by kernel_rfl)) ?_
    exact Obs.nil
  obtain ⟨hf_b0, hr_b0⟩ := hD.bx 0 _ _ rfl
  replace hf_b0 := Nat.le_trans hW.2.2 hf_b0
  replace hW := grown_trans hW hD.gr
  clear hD
  simp only [finAct, putAll, valsFrom, Plan.value, Act.put, List.setIfInBounds_toArray, List.set_cons_zero, List.set_cons_succ]
  replace hGl := hGl0.grown hW
  generalize β 0 = b0 at *
  repeat ((fail_if_success (with_reducible show Code.wp _ (Code.region _ _ _) _ _ _)); go_step)
  refine wp_plain [.val (bv (b)), .val (.tuple #[pv (0) (0), .int .i64 (41)]), .imm (.tuple #[pv (0) (0), .int .i64 (41)]), .imm (pv (0) (0)), .imm (.int .i64 (41)), .new 37 64, .put 5 5 (fun _ => pcs (0) (0)), .imm (.int .i64 (41))] (by kernel_rfl) (fun β => ?_) (fun β w2 hD => ?_)
  · refine Obs.cons (Ob.load (b0) 0 (bl (b)) rfl rfl (by kernel_rfl) hr_b0 Tryd.underlying23 rfl (by rw [bl_length]; exact info32)) ?_
    refine Obs.cons (Ob.call 28 #[bv (b)] rfl (fun w => by kernel_rfl) (fun w hg => D_none0 b hb hs hy hr w (hGl.1.grown hg))) ?_
    refine Obs.cons (Ob.imm rfl (fun w => by kernel_rfl)) ?_
    refine Obs.cons (Ob.imm rfl (fun w => by kernel_rfl)) ?_
    refine Obs.cons (Ob.imm rfl (fun w => by kernel_rfl)) ?_
    refine Obs.cons (Ob.new _ rfl rfl zeroP (by simp [pcs_length])) ?_
    refine Obs.cons (Ob.put 37 rfl rfl rfl (by kernel_rfl) (by kernel_rfl) (by rw [pcs_length]; exact infoP) (pcs_one _ _)) ?_
    refine Obs.cons (Ob.imm rfl (fun w => by kernel_rfl)) ?_
    exact Obs.nil
  replace hr_b0 := rangeAt_grown hr_b0 hD.gr
  obtain ⟨hf_b1, ht_b1⟩ := hD.nw 5 _ _ rfl
  have hr_b1 : w2.rangeAt (β 5) 0 (pcs (0) (0)) := hD.rg 6 5 5 (fun _ => pcs (0) (0)) rfl
  replace hf_b1 := Nat.le_trans hW.2.2 hf_b1
  replace hW := grown_trans hW hD.gr
  clear hD
  simp only [finAct, putAll, valsFrom, Plan.value, Act.put, List.setIfInBounds_toArray, List.set_cons_zero, List.set_cons_succ]
  replace hGl := hGl0.grown hW
  generalize β (0 + 1 + 1 + 1 + 1 + 1) = b1 at *
  have hr_b1x : w2.rangeAt b1 0 (bl (0)) := rangeAt_left hr_b1
  have hr_b1y : w2.rangeAt b1 32 (bl (0)) := rangeAt_right 32 (bl_length _) hr_b1
  repeat ((fail_if_success (with_reducible show Code.wp _ (Code.region _ _ _) _ _ _)); go_step)
  refine wp_plain [.val (bv (b)), .val (.tuple #[pv (0) (0), .int .i64 (41)]), .imm (.tuple #[pv (0) (0), .int .i64 (41)]), .imm (pv (0) (0)), .imm (.int .i64 (41)), .new 39 64, .put 5 5 (fun _ => pcs (0) (0)), .imm (.int .i64 (41))] (by kernel_rfl) (fun β => ?_) (fun β w3 hD => ?_)
  · refine Obs.cons (Ob.load (b0) 0 (bl (b)) rfl rfl (by kernel_rfl) hr_b0 Tryd.underlying23 rfl (by rw [bl_length]; exact info32)) ?_
    refine Obs.cons (Ob.call 36 #[bv (b)] rfl (fun w => by kernel_rfl) (fun w hg => RD_none0 b hb hs hy hr w (hGl.2.grown hg))) ?_
    refine Obs.cons (Ob.imm rfl (fun w => by kernel_rfl)) ?_
    refine Obs.cons (Ob.imm rfl (fun w => by kernel_rfl)) ?_
    refine Obs.cons (Ob.imm rfl (fun w => by kernel_rfl)) ?_
    refine Obs.cons (Ob.new _ rfl rfl zeroQ (by simp [pcs_length])) ?_
    refine Obs.cons (Ob.put 39 rfl rfl rfl (by kernel_rfl) (by kernel_rfl) (by rw [pcs_length]; exact infoQ) (pcs_one _ _)) ?_
    refine Obs.cons (Ob.imm rfl (fun w => by kernel_rfl)) ?_
    exact Obs.nil
  replace hr_b0 := rangeAt_grown hr_b0 hD.gr
  replace hr_b1 := rangeAt_grown hr_b1 hD.gr
  replace hr_b1x := rangeAt_grown hr_b1x hD.gr
  replace hr_b1y := rangeAt_grown hr_b1y hD.gr
  replace ht_b1 := there_grown ht_b1 hD.gr
  obtain ⟨hf_b2, ht_b2⟩ := hD.nw 5 _ _ rfl
  have hr_b2 : w3.rangeAt (β 5) 0 (pcs (0) (0)) := hD.rg 6 5 5 (fun _ => pcs (0) (0)) rfl
  replace hf_b2 := Nat.le_trans hW.2.2 hf_b2
  replace hW := grown_trans hW hD.gr
  clear hD
  simp only [finAct, putAll, valsFrom, Plan.value, Act.put, List.setIfInBounds_toArray, List.set_cons_zero, List.set_cons_succ]
  replace hGl := hGl0.grown hW
  generalize β (0 + 1 + 1 + 1 + 1 + 1) = b2 at *
  have hr_b2x : w3.rangeAt b2 0 (bl (0)) := rangeAt_left hr_b2
  have hr_b2y : w3.rangeAt b2 32 (bl (0)) := rangeAt_right 32 (bl_length _) hr_b2
  repeat ((fail_if_success (with_reducible show Code.wp _ (Code.region _ _ _) _ _ _)); go_step)
  refine wp_plain [.val (pv (0) (0)), .val (pv (0) (0)), .val (.bool true), .imm (.bool true), .imm (.int .i64 (41)), .val (.int .i64 (41)), .imm (.int .i64 (41)), .imm (.bool true), .imm (.bool true), .imm (.bool true)] (by kernel_rfl) (fun β => ?_) (fun β w4 hD => ?_)
  · refine Obs.cons (Ob.load (b1) 0 (pcs (0) (0)) rfl rfl (by kernel_rfl) hr_b1 Tryd.underlying37 rfl (by rw [pcs_length]; exact infoP)) ?_
    refine Obs.cons (Ob.load (b2) 0 (pcs (0) (0)) rfl rfl (by kernel_rfl) hr_b2 Tryd.underlying39 rfl (by rw [pcs_length]; exact infoQ)) ?_
    refine Obs.cons (Ob.call 21 #[pv (0) (0), pv (0) (0)] rfl (fun w => by kernel_rfl) (fun w hg => alike_1 (0) (0) (by decide) (by decide) w)) ?_
    refine Obs.cons (Ob.imm rfl (fun w => by kernel_rfl)) ?_
    refine Obs.cons (Ob.imm (by kernel_rfl) (fun w => by kernel_rfl)) ?_
    refine Obs.cons (Ob.call 32 #[.int .i64 (41)] (by kernel_rfl) (fun w => by kernel_rfl) (fun w hg => num_is (41) w)) ?_
    refine Obs.cons (Ob.imm (by kernel_rfl) (fun w => by kernel_rfl)) ?_
    refine Obs.cons (Ob.imm (by kernel_rfl) (fun w => by kernel_rfl)) ?_
    refine Obs.cons (Ob.imm rfl (fun w => by kernel_rfl)) ?_
    refine Obs.cons (Ob.imm rfl (fun w => by kernel_rfl)) ?_
    exact Obs.nil
  replace hr_b0 := rangeAt_grown hr_b0 hD.gr
  replace hr_b1 := rangeAt_grown hr_b1 hD.gr
  replace hr_b1x := rangeAt_grown hr_b1x hD.gr
  replace hr_b1y := rangeAt_grown hr_b1y hD.gr
  replace hr_b2 := rangeAt_grown hr_b2 hD.gr
  replace hr_b2x := rangeAt_grown hr_b2x hD.gr
  replace hr_b2y := rangeAt_grown hr_b2y hD.gr
  replace ht_b1 := there_grown ht_b1 hD.gr
  replace ht_b2 := there_grown ht_b2 hD.gr
  replace hW := grown_trans hW hD.gr
  clear hD
  simp only [finAct, putAll, valsFrom, Plan.value, Act.put, List.setIfInBounds_toArray, List.set_cons_zero, List.set_cons_succ]
  replace hGl := hGl0.grown hW
  repeat go_step
  go_ret
  exact ⟨rfl, hW⟩

set_option maxRecDepth 100000 in
set_option maxHeartbeats 2000000 in
theorem Pd_high1 (b : Nat) (hb : b < M) (hs : ¬ b < H) (hy : ¬ b % H < p) (w : World) (hGl0 : GD w) :
    Calls Tryd.prog 7 #[bv b] w fun e w' => e = .returned (.bool true) ∧ Grown w w' := by
  have hW := Grown.refl w
  have hGl := hGl0
  go_enter Tryd.func7, Tryd.ntmps7
  repeat ((fail_if_success (with_reducible show Code.wp _ (Code.region _ _ _) _ _ _)); go_step)
  refine wp_plain [.box 23 (bl (b)), .imm (.bool false)] (by kernel_rfl) (fun β => ?_) (fun β w1 hD => ?_)
  · refine Obs.cons (Ob.box rfl rfl (by kernel_rfl)) ?_
    refine Obs.cons (Ob.imm rfl (fun w => by kernel_rfl)) ?_
    exact Obs.nil
  obtain ⟨hf_b0, hr_b0⟩ := hD.bx 0 _ _ rfl
  replace hf_b0 := Nat.le_trans hW.2.2 hf_b0
  replace hW := grown_trans hW hD.gr
  clear hD
  simp only [finAct, putAll, valsFrom, Plan.value, Act.put, List.setIfInBounds_toArray, List.set_cons_zero, List.set_cons_succ]
  replace hGl := hGl0.grown hW
  generalize β 0 = b0 at *
  repeat ((fail_if_success (with_reducible show Code.wp _ (Code.region _ _ _) _ _ _)); go_step)
  refine wp_plain [.val (bv (b)), .val (.tuple #[pv (0) (0), .int .i64 (40)]), .imm (.tuple #[pv (0) (0), .int .i64 (40)]), .imm (pv (0) (0)), .imm (.int .i64 (40)), .new 37 64, .put 5 5 (fun _ => pcs (0) (0)), .imm (.int .i64 (40))] (by kernel_rfl) (fun β => ?_) (fun β w2 hD => ?_)
  · refine Obs.cons (Ob.load (b0) 0 (bl (b)) rfl rfl (by kernel_rfl) hr_b0 Tryd.underlying23 rfl (by rw [bl_length]; exact info32)) ?_
    refine Obs.cons (Ob.call 28 #[bv (b)] rfl (fun w => by kernel_rfl) (fun w hg => D_high1 b hb hs hy w (hGl.1.grown hg))) ?_
    refine Obs.cons (Ob.imm rfl (fun w => by kernel_rfl)) ?_
    refine Obs.cons (Ob.imm rfl (fun w => by kernel_rfl)) ?_
    refine Obs.cons (Ob.imm rfl (fun w => by kernel_rfl)) ?_
    refine Obs.cons (Ob.new _ rfl rfl zeroP (by simp [pcs_length])) ?_
    refine Obs.cons (Ob.put 37 rfl rfl rfl (by kernel_rfl) (by kernel_rfl) (by rw [pcs_length]; exact infoP) (pcs_one _ _)) ?_
    refine Obs.cons (Ob.imm rfl (fun w => by kernel_rfl)) ?_
    exact Obs.nil
  replace hr_b0 := rangeAt_grown hr_b0 hD.gr
  obtain ⟨hf_b1, ht_b1⟩ := hD.nw 5 _ _ rfl
  have hr_b1 : w2.rangeAt (β 5) 0 (pcs (0) (0)) := hD.rg 6 5 5 (fun _ => pcs (0) (0)) rfl
  replace hf_b1 := Nat.le_trans hW.2.2 hf_b1
  replace hW := grown_trans hW hD.gr
  clear hD
  simp only [finAct, putAll, valsFrom, Plan.value, Act.put, List.setIfInBounds_toArray, List.set_cons_zero, List.set_cons_succ]
  replace hGl := hGl0.grown hW
  generalize β (0 + 1 + 1 + 1 + 1 + 1) = b1 at *
  have hr_b1x : w2.rangeAt b1 0 (bl (0)) := rangeAt_left hr_b1
  have hr_b1y : w2.rangeAt b1 32 (bl (0)) := rangeAt_right 32 (bl_length _) hr_b1
  repeat ((fail_if_success (with_reducible show Code.wp _ (Code.region _ _ _) _ _ _)); go_step)
  refine wp_plain [.val (bv (b)), .val (.tuple #[pv (0) (0), .int .i64 (40)]), .imm (.tuple #[pv (0) (0), .int .i64 (40)]), .imm (pv (0) (0)), .imm (.int .i64 (40)), .new 39 64, .put 5 5 (fun _ => pcs (0) (0)), .imm (.int .i64 (40))] (by kernel_rfl) (fun β => ?_) (fun β w3 hD => ?_)
  · refine Obs.cons (Ob.load (b0) 0 (bl (b)) rfl rfl (by kernel_rfl) hr_b0 Tryd.underlying23 rfl (by rw [bl_length]; exact info32)) ?_
    refine Obs.cons (Ob.call 36 #[bv (b)] rfl (fun w => by kernel_rfl) (fun w hg => RD_high1 b hb hs hy w (hGl.2.grown hg))) ?_
    refine Obs.cons (Ob.imm rfl (fun w => by kernel_rfl)) ?_
    refine Obs.cons (Ob.imm rfl (fun w => by kernel_rfl)) ?_
    refine Obs.cons (Ob.imm rfl (fun w => by kernel_rfl)) ?_
    refine Obs.cons (Ob.new _ rfl rfl zeroQ (by simp [pcs_length])) ?_
    refine Obs.cons (Ob.put 39 rfl rfl rfl (by kernel_rfl) (by kernel_rfl) (by rw [pcs_length]; exact infoQ) (pcs_one _ _)) ?_
    refine Obs.cons (Ob.imm rfl (fun w => by kernel_rfl)) ?_
    exact Obs.nil
  replace hr_b0 := rangeAt_grown hr_b0 hD.gr
  replace hr_b1 := rangeAt_grown hr_b1 hD.gr
  replace hr_b1x := rangeAt_grown hr_b1x hD.gr
  replace hr_b1y := rangeAt_grown hr_b1y hD.gr
  replace ht_b1 := there_grown ht_b1 hD.gr
  obtain ⟨hf_b2, ht_b2⟩ := hD.nw 5 _ _ rfl
  have hr_b2 : w3.rangeAt (β 5) 0 (pcs (0) (0)) := hD.rg 6 5 5 (fun _ => pcs (0) (0)) rfl
  replace hf_b2 := Nat.le_trans hW.2.2 hf_b2
  replace hW := grown_trans hW hD.gr
  clear hD
  simp only [finAct, putAll, valsFrom, Plan.value, Act.put, List.setIfInBounds_toArray, List.set_cons_zero, List.set_cons_succ]
  replace hGl := hGl0.grown hW
  generalize β (0 + 1 + 1 + 1 + 1 + 1) = b2 at *
  have hr_b2x : w3.rangeAt b2 0 (bl (0)) := rangeAt_left hr_b2
  have hr_b2y : w3.rangeAt b2 32 (bl (0)) := rangeAt_right 32 (bl_length _) hr_b2
  repeat ((fail_if_success (with_reducible show Code.wp _ (Code.region _ _ _) _ _ _)); go_step)
  refine wp_plain [.val (pv (0) (0)), .val (pv (0) (0)), .val (.bool true), .imm (.bool true), .imm (.int .i64 (40)), .val (.int .i64 (40)), .imm (.int .i64 (40)), .imm (.bool true), .imm (.bool true), .imm (.bool true)] (by kernel_rfl) (fun β => ?_) (fun β w4 hD => ?_)
  · refine Obs.cons (Ob.load (b1) 0 (pcs (0) (0)) rfl rfl (by kernel_rfl) hr_b1 Tryd.underlying37 rfl (by rw [pcs_length]; exact infoP)) ?_
    refine Obs.cons (Ob.load (b2) 0 (pcs (0) (0)) rfl rfl (by kernel_rfl) hr_b2 Tryd.underlying39 rfl (by rw [pcs_length]; exact infoQ)) ?_
    refine Obs.cons (Ob.call 21 #[pv (0) (0), pv (0) (0)] rfl (fun w => by kernel_rfl) (fun w hg => alike_1 (0) (0) (by decide) (by decide) w)) ?_
    refine Obs.cons (Ob.imm rfl (fun w => by kernel_rfl)) ?_
    refine Obs.cons (Ob.imm (by kernel_rfl) (fun w => by kernel_rfl)) ?_
    refine Obs.cons (Ob.call 32 #[.int .i64 (40)] (by kernel_rfl) (fun w => by kernel_rfl) (fun w hg => num_is (40) w)) ?_
    refine Obs.cons (Ob.imm (by kernel_rfl) (fun w => by kernel_rfl)) ?_
    refine Obs.cons (Ob.imm (by kernel_rfl) (fun w => by kernel_rfl)) ?_
    refine Obs.cons (Ob.imm rfl (fun w => by kernel_rfl)) ?_
    refine Obs.cons (Ob.imm rfl (fun w => by kernel_rfl)) ?_
    exact Obs.nil
  replace hr_b0 := rangeAt_grown hr_b0 hD.gr
  replace hr_b1 := rangeAt_grown hr_b1 hD.gr
  replace hr_b1x := rangeAt_grown hr_b1x hD.gr
  replace hr_b1y := rangeAt_grown hr_b1y hD.gr
  replace hr_b2 := rangeAt_grown hr_b2 hD.gr
  replace hr_b2x := rangeAt_grown hr_b2x hD.gr
  replace hr_b2y := rangeAt_grown hr_b2y hD.gr
  replace ht_b1 := there_grown ht_b1 hD.gr
  replace ht_b2 := there_grown ht_b2 hD.gr
  replace hW := grown_trans hW hD.gr
  clear hD
  simp only [finAct, putAll, valsFrom, Plan.value, Act.put, List.setIfInBounds_toArray, List.set_cons_zero, List.set_cons_succ]
  replace hGl := hGl0.grown hW
  repeat go_step
  go_ret
  exact ⟨rfl, hW⟩

set_option maxRecDepth 100000 in
set_option maxHeartbeats 2000000 in
theorem Pd_none1 (b : Nat) (hb : b < M) (hs : ¬ b < H) (hy : b % H < p) (hr : ¬ rok (uu (b % H)) (vv (b % H))) (w : World) (hGl0 : GD w) :
    Calls Tryd.prog 7 #[bv b] w fun e w' => e = .returned (.bool true) ∧ Grown w w' := by
  have hW := Grown.refl w
  have hGl := hGl0
  go_enter Tryd.func7, Tryd.ntmps7
  repeat ((fail_if_success (with_reducible show Code.wp _ (Code.region _ _ _) _ _ _)); go_step)
  refine wp_plain [.box 23 (bl (b)), .imm (.bool false)] (by kernel_rfl) (fun β => ?_) (fun β w1 hD => ?_)
  · refine Obs.cons (Ob.box rfl rfl (by kernel_rfl)) ?_
    refine Obs.cons (Ob.imm rfl (fun w => by kernel_rfl)) ?_
    exact Obs.nil
  obtain ⟨hf_b0, hr_b0⟩ := hD.bx 0 _ _ rfl
  replace hf_b0 := Nat.le_trans hW.2.2 hf_b0
  replace hW := grown_trans hW hD.gr
  clear hD
  simp only [finAct, putAll, valsFrom, Plan.value, Act.put, List.setIfInBounds_toArray, List.set_cons_zero, List.set_cons_succ]
  replace hGl := hGl0.grown hW
  generalize β 0 = b0 at *
  repeat ((fail_if_success (with_reducible show Code.wp _ (Code.region _ _ _) _ _ _)); go_step)
  refine wp_plain [.val (bv (b)), .val (.tuple #[pv (0) (0), .int .i64 (41)]), .imm (.tuple #[pv (0) (0), .int .i64 (41)]), .imm (pv (0) (0)), .imm (.int .i64 (41)), .new 37 64, .put 5 5 (fun _ => pcs (0) (0)), .imm (.int .i64 (41))] (by kernel_rfl) (fun β => ?_) (fun β w2 hD => ?_)
  · refine Obs.cons (Ob.load (b0) 0 (bl (b)) rfl rfl (by kernel_rfl) hr_b0 Tryd.underlying23 rfl (by rw [bl_length]; exact info32)) ?_
    refine Obs.cons (Ob.call 28 #[bv (b)] rfl (fun w => by kernel_rfl) (fun w hg => D_none1 b hb hs hy hr w (hGl.1.grown hg))) ?_
    refine Obs.cons (Ob.imm rfl (fun w => by kernel_rfl)) ?_
    refine Obs.cons (Ob.imm rfl (fun w => by kernel_rfl)) ?_
    refine Obs.cons (Ob.imm rfl (fun w => by kernel_rfl)) ?_
    refine Obs.cons (Ob.new _ rfl rfl zeroP (by simp [pcs_length])) ?_
    refine Obs.cons (Ob.put 37 rfl rfl rfl (by kernel_rfl) (by kernel_rfl) (by rw [pcs_length]; exact infoP) (pcs_one _ _)) ?_
    refine Obs.cons (Ob.imm rfl (fun w => by kernel_rfl)) ?_
    exact Obs.nil
  replace hr_b0 := rangeAt_grown hr_b0 hD.gr
  obtain ⟨hf_b1, ht_b1⟩ := hD.nw 5 _ _ rfl
  have hr_b1 : w2.rangeAt (β 5) 0 (pcs (0) (0)) := hD.rg 6 5 5 (fun _ => pcs (0) (0)) rfl
  replace hf_b1 := Nat.le_trans hW.2.2 hf_b1
  replace hW := grown_trans hW hD.gr
  clear hD
  simp only [finAct, putAll, valsFrom, Plan.value, Act.put, List.setIfInBounds_toArray, List.set_cons_zero, List.set_cons_succ]
  replace hGl := hGl0.grown hW
  generalize β (0 + 1 + 1 + 1 + 1 + 1) = b1 at *
  have hr_b1x : w2.rangeAt b1 0 (bl (0)) := rangeAt_left hr_b1
  have hr_b1y : w2.rangeAt b1 32 (bl (0)) := rangeAt_right 32 (bl_length _) hr_b1
  repeat ((fail_if_success (with_reducible show Code.wp _ (Code.region _ _ _) _ _ _)); go_step)
  refine wp_plain [.val (bv (b)), .val (.tuple #[pv (0) (0), .int .i64 (41)]), .imm (.tuple #[pv (0) (0), .int .i64 (41)]), .imm (pv (0) (0)), .imm (.int .i64 (41)), .new 39 64, .put 5 5 (fun _ => pcs (0) (0)), .imm (.int .i64 (41))] (by kernel_rfl) (fun β => ?_) (fun β w3 hD => ?_)
  · refine Obs.cons (Ob.load (b0) 0 (bl (b)) rfl rfl (by kernel_rfl) hr_b0 Tryd.underlying23 rfl (by rw [bl_length]; exact info32)) ?_
    refine Obs.cons (Ob.call 36 #[bv (b)] rfl (fun w => by kernel_rfl) (fun w hg => RD_none1 b hb hs hy hr w (hGl.2.grown hg))) ?_
    refine Obs.cons (Ob.imm rfl (fun w => by kernel_rfl)) ?_
    refine Obs.cons (Ob.imm rfl (fun w => by kernel_rfl)) ?_
    refine Obs.cons (Ob.imm rfl (fun w => by kernel_rfl)) ?_
    refine Obs.cons (Ob.new _ rfl rfl zeroQ (by simp [pcs_length])) ?_
    refine Obs.cons (Ob.put 39 rfl rfl rfl (by kernel_rfl) (by kernel_rfl) (by rw [pcs_length]; exact infoQ) (pcs_one _ _)) ?_
    refine Obs.cons (Ob.imm rfl (fun w => by kernel_rfl)) ?_
    exact Obs.nil
  replace hr_b0 := rangeAt_grown hr_b0 hD.gr
  replace hr_b1 := rangeAt_grown hr_b1 hD.gr
  replace hr_b1x := rangeAt_grown hr_b1x hD.gr
  replace hr_b1y := rangeAt_grown hr_b1y hD.gr
  replace ht_b1 := there_grown ht_b1 hD.gr
  obtain ⟨hf_b2, ht_b2⟩ := hD.nw 5 _ _ rfl
  have hr_b2 : w3.rangeAt (β 5) 0 (pcs (0) (0)) := hD.rg 6 5 5 (fun _ => pcs (0) (0)) rfl
  replace hf_b2 := Nat.le_trans hW.2.2 hf_b2
  replace hW := grown_trans hW hD.gr
  clear hD
  simp only [finAct, putAll, valsFrom, Plan.value, Act.put, List.setIfInBounds_toArray, List.set_cons_zero, List.set_cons_succ]
  replace hGl := hGl0.grown hW
  generalize β (0 + 1 + 1 + 1 + 1 + 1) = b2 at *
  have hr_b2x : w3.rangeAt b2 0 (bl (0)) := rangeAt_left hr_b2
  have hr_b2y : w3.rangeAt b2 32 (bl (0)) := rangeAt_right 32 (bl_length _) hr_b2
  repeat ((fail_if_success (with_reducible show Code.wp _ (Code.region _ _ _) _ _ _)); go_step)
  refine wp_plain [.val (pv (0) (0)), .val (pv (0) (0)), .val (.bool true), .imm (.bool true), .imm (.int .i64 (41)), .val (.int .i64 (41)), .imm (.int .i64 (41)), .imm (.bool true), .imm (.bool true), .imm (.bool true)] (by kernel_rfl) (fun β => ?_) (fun β w4 hD => ?_)
  · refine Obs.cons (Ob.load (b1) 0 (pcs (0) (0)) rfl rfl (by kernel_rfl) hr_b1 Tryd.underlying37 rfl (by rw [pcs_length]; exact infoP)) ?_
    refine Obs.cons (Ob.load (b2) 0 (pcs (0) (0)) rfl rfl (by kernel_rfl) hr_b2 Tryd.underlying39 rfl (by rw [pcs_length]; exact infoQ)) ?_
    refine Obs.cons (Ob.call 21 #[pv (0) (0), pv (0) (0)] rfl (fun w => by kernel_rfl) (fun w hg => alike_1 (0) (0) (by decide) (by decide) w)) ?_
    refine Obs.cons (Ob.imm rfl (fun w => by kernel_rfl)) ?_
    refine Obs.cons (Ob.imm (by kernel_rfl) (fun w => by kernel_rfl)) ?_
    refine Obs.cons (Ob.call 32 #[.int .i64 (41)] (by kernel_rfl) (fun w => by kernel_rfl) (fun w hg => num_is (41) w)) ?_
    refine Obs.cons (Ob.imm (by kernel_rfl) (fun w => by kernel_rfl)) ?_
    refine Obs.cons (Ob.imm (by kernel_rfl) (fun w => by kernel_rfl)) ?_
    refine Obs.cons (Ob.imm rfl (fun w => by kernel_rfl)) ?_
    refine Obs.cons (Ob.imm rfl (fun w => by kernel_rfl)) ?_
    exact Obs.nil
  replace hr_b0 := rangeAt_grown hr_b0 hD.gr
  replace hr_b1 := rangeAt_grown hr_b1 hD.gr
  replace hr_b1x := rangeAt_grown hr_b1x hD.gr
  replace hr_b1y := rangeAt_grown hr_b1y hD.gr
  replace hr_b2 := rangeAt_grown hr_b2 hD.gr
  replace hr_b2x := rangeAt_grown hr_b2x hD.gr
  replace hr_b2y := rangeAt_grown hr_b2y hD.gr
  replace ht_b1 := there_grown ht_b1 hD.gr
  replace ht_b2 := there_grown ht_b2 hD.gr
  replace hW := grown_trans hW hD.gr
  clear hD
  simp only [finAct, putAll, valsFrom, Plan.value, Act.put, List.setIfInBounds_toArray, List.set_cons_zero, List.set_cons_succ]
  replace hGl := hGl0.grown hW
  repeat go_step
  go_ret
  exact ⟨rfl, hW⟩

set_option maxRecDepth 100000 in
set_option maxHeartbeats 2000000 in
theorem Pd_sign (b : Nat) (hb : b < M) (hs : ¬ b < H) (hy : b % H < p) (hr : rok (uu (b % H)) (vv (b % H))) (h0 : rt (uu (b % H)) (vv (b % H)) = 0) (w : World) (hGl0 : GD w) :
    Calls Tryd.prog 7 #[bv b] w fun e w' => e = .returned (.bool true) ∧ Grown w w' := by
  have hW := Grown.refl w
  have hGl := hGl0
  go_enter Tryd.func7, Tryd.ntmps7
  repeat ((fail_if_success (with_reducible show Code.wp _ (Code.region _ _ _) _ _ _)); go_step)
  refine wp_plain [.box 23 (bl (b)), .imm (.bool false)] (by kernel_rfl) (fun β => ?_) (fun β w1 hD => ?_)
  · refine Obs.cons (Ob.box rfl rfl (by kernel_rfl)) ?_
    refine Obs.cons (Ob.imm rfl (fun w => by kernel_rfl)) ?_
    exact Obs.nil
  obtain ⟨hf_b0, hr_b0⟩ := hD.bx 0 _ _ rfl
  replace hf_b0 := Nat.le_trans hW.2.2 hf_b0
  replace hW := grown_trans hW hD.gr
  clear hD
  simp only [finAct, putAll, valsFrom, Plan.value, Act.put, List.setIfInBounds_toArray, List.set_cons_zero, List.set_cons_succ]
  replace hGl := hGl0.grown hW
  generalize β 0 = b0 at *
  repeat ((fail_if_success (with_reducible show Code.wp _ (Code.region _ _ _) _ _ _)); go_step)
  refine wp_plain [.val (bv (b)), .val (.tuple #[pv (0) (0), .int .i64 (42)]), .imm (.tuple #[pv (0) (0), .int .i64 (42)]), .imm (pv (0) (0)), .imm (.int .i64 (42)), .new 37 64, .put 5 5 (fun _ => pcs (0) (0)), .imm (.int .i64 (42))] (by kernel_rfl) (fun β => ?_) (fun β w2 hD => ?_)
  · refine Obs.cons (Ob.load (b0) 0 (bl (b)) rfl rfl (by kernel_rfl) hr_b0 Tryd.underlying23 rfl (by rw [bl_length]; exact info32)) ?_
    refine Obs.cons (Ob.call 28 #[bv (b)] rfl (fun w => by kernel_rfl) (fun w hg => D_sign b hb hs hy hr h0 w (hGl.1.grown hg))) ?_
    refine Obs.cons (Ob.imm rfl (fun w => by kernel_rfl)) ?_
    refine Obs.cons (Ob.imm rfl (fun w => by kernel_rfl)) ?_
    refine Obs.cons (Ob.imm rfl (fun w => by kernel_rfl)) ?_
    refine Obs.cons (Ob.new _ rfl rfl zeroP (by simp [pcs_length])) ?_
    refine Obs.cons (Ob.put 37 rfl rfl rfl (by kernel_rfl) (by kernel_rfl) (by rw [pcs_length]; exact infoP) (pcs_one _ _)) ?_
    refine Obs.cons (Ob.imm rfl (fun w => by kernel_rfl)) ?_
    exact Obs.nil
  replace hr_b0 := rangeAt_grown hr_b0 hD.gr
  obtain ⟨hf_b1, ht_b1⟩ := hD.nw 5 _ _ rfl
  have hr_b1 : w2.rangeAt (β 5) 0 (pcs (0) (0)) := hD.rg 6 5 5 (fun _ => pcs (0) (0)) rfl
  replace hf_b1 := Nat.le_trans hW.2.2 hf_b1
  replace hW := grown_trans hW hD.gr
  clear hD
  simp only [finAct, putAll, valsFrom, Plan.value, Act.put, List.setIfInBounds_toArray, List.set_cons_zero, List.set_cons_succ]
  replace hGl := hGl0.grown hW
  generalize β (0 + 1 + 1 + 1 + 1 + 1) = b1 at *
  have hr_b1x : w2.rangeAt b1 0 (bl (0)) := rangeAt_left hr_b1
  have hr_b1y : w2.rangeAt b1 32 (bl (0)) := rangeAt_right 32 (bl_length _) hr_b1
  repeat ((fail_if_success (with_reducible show Code.wp _ (Code.region _ _ _) _ _ _)); go_step)
  refine wp_plain [.val (bv (b)), .val (.tuple #[pv (0) (0), .int .i64 (42)]), .imm (.tuple #[pv (0) (0), .int .i64 (42)]), .imm (pv (0) (0)), .imm (.int .i64 (42)), .new 39 64, .put 5 5 (fun _ => pcs (0) (0)), .imm (.int .i64 (42))] (by kernel_rfl) (fun β => ?_) (fun β w3 hD => ?_)
  · refine Obs.cons (Ob.load (b0) 0 (bl (b)) rfl rfl (by kernel_rfl) hr_b0 Tryd.underlying23 rfl (by rw [bl_length]; exact info32)) ?_
    refine Obs.cons (Ob.call 36 #[bv (b)] rfl (fun w => by kernel_rfl) (fun w hg => RD_sign b hb hs hy hr h0 w (hGl.2.grown hg))) ?_
    refine Obs.cons (Ob.imm rfl (fun w => by kernel_rfl)) ?_
    refine Obs.cons (Ob.imm rfl (fun w => by kernel_rfl)) ?_
    refine Obs.cons (Ob.imm rfl (fun w => by kernel_rfl)) ?_
    refine Obs.cons (Ob.new _ rfl rfl zeroQ (by simp [pcs_length])) ?_
    refine Obs.cons (Ob.put 39 rfl rfl rfl (by kernel_rfl) (by kernel_rfl) (by rw [pcs_length]; exact infoQ) (pcs_one _ _)) ?_
    refine Obs.cons (Ob.imm rfl (fun w => by kernel_rfl)) ?_
    exact Obs.nil
  replace hr_b0 := rangeAt_grown hr_b0 hD.gr
  replace hr_b1 := rangeAt_grown hr_b1 hD.gr
  replace hr_b1x := rangeAt_grown hr_b1x hD.gr
  replace hr_b1y := rangeAt_grown hr_b1y hD.gr
  replace ht_b1 := there_grown ht_b1 hD.gr
  obtain ⟨hf_b2, ht_b2⟩ := hD.nw 5 _ _ rfl
  have hr_b2 : w3.rangeAt (β 5) 0 (pcs (0) (0)) := hD.rg 6 5 5 (fun _ => pcs (0) (0)) rfl
  replace hf_b2 := Nat.le_trans hW.2.2 hf_b2
  replace hW := grown_trans hW hD.gr
  clear hD
  simp only [finAct, putAll, valsFrom, Plan.value, Act.put, List.setIfInBounds_toArray, List.set_cons_zero, List.set_cons_succ]
  replace hGl := hGl0.grown hW
  generalize β (0 + 1 + 1 + 1 + 1 + 1) = b2 at *
  have hr_b2x : w3.rangeAt b2 0 (bl (0)) := rangeAt_left hr_b2
  have hr_b2y : w3.rangeAt b2 32 (bl (0)) := rangeAt_right 32 (bl_length _) hr_b2
  repeat ((fail_if_success (with_reducible show Code.wp _ (Code.region _ _ _) _ _ _)); go_step)
  refine wp_plain [.val (pv (0) (0)), .val (pv (0) (0)), .val (.bool true), .imm (.bool true), .imm (.int .i64 (42)), .val (.int .i64 (42)), .imm (.int .i64 (42)), .imm (.bool true), .imm (.bool true), .imm (.bool true)] (by kernel_rfl) (fun β => ?_) (fun β w4 hD => ?_)
  · refine Obs.cons (Ob.load (b1) 0 (pcs (0) (0)) rfl rfl (by kernel_rfl) hr_b1 Tryd.underlying37 rfl (by rw [pcs_length]; exact infoP)) ?_
    refine Obs.cons (Ob.load (b2) 0 (pcs (0) (0)) rfl rfl (by kernel_rfl) hr_b2 Tryd.underlying39 rfl (by rw [pcs_length]; exact infoQ)) ?_
    refine Obs.cons (Ob.call 21 #[pv (0) (0), pv (0) (0)] rfl (fun w => by kernel_rfl) (fun w hg => alike_1 (0) (0) (by decide) (by decide) w)) ?_
    refine Obs.cons (Ob.imm rfl (fun w => by kernel_rfl)) ?_
    refine Obs.cons (Ob.imm (by kernel_rfl) (fun w => by kernel_rfl)) ?_
    refine Obs.cons (Ob.call 32 #[.int .i64 (42)] (by kernel_rfl) (fun w => by kernel_rfl) (fun w hg => num_is (42) w)) ?_
    refine Obs.cons (Ob.imm (by kernel_rfl) (fun w => by kernel_rfl)) ?_
    refine Obs.cons (Ob.imm (by kernel_rfl) (fun w => by kernel_rfl)) ?_
    refine Obs.cons (Ob.imm rfl (fun w => by kernel_rfl)) ?_
    refine Obs.cons (Ob.imm rfl (fun w => by kernel_rfl)) ?_
    exact Obs.nil
  replace hr_b0 := rangeAt_grown hr_b0 hD.gr
  replace hr_b1 := rangeAt_grown hr_b1 hD.gr
  replace hr_b1x := rangeAt_grown hr_b1x hD.gr
  replace hr_b1y := rangeAt_grown hr_b1y hD.gr
  replace hr_b2 := rangeAt_grown hr_b2 hD.gr
  replace hr_b2x := rangeAt_grown hr_b2x hD.gr
  replace hr_b2y := rangeAt_grown hr_b2y hD.gr
  replace ht_b1 := there_grown ht_b1 hD.gr
  replace ht_b2 := there_grown ht_b2 hD.gr
  replace hW := grown_trans hW hD.gr
  clear hD
  simp only [finAct, putAll, valsFrom, Plan.value, Act.put, List.setIfInBounds_toArray, List.set_cons_zero, List.set_cons_succ]
  replace hGl := hGl0.grown hW
  repeat go_step
  go_ret
  exact ⟨rfl, hW⟩

set_option maxRecDepth 100000 in
set_option maxHeartbeats 2000000 in
theorem Pd_odd (b : Nat) (hb : b < M) (hs : ¬ b < H) (hy : b % H < p) (hr : rok (uu (b % H)) (vv (b % H))) (h0 : ¬ rt (uu (b % H)) (vv (b % H)) = 0) (w : World) (hGl0 : GD w) :
    Calls Tryd.prog 7 #[bv b] w fun e w' => e = .returned (.bool true) ∧ Grown w w' := by
  have hW := Grown.refl w
  have hGl := hGl0
  go_enter Tryd.func7, Tryd.ntmps7
  repeat ((fail_if_success (with_reducible show Code.wp _ (Code.region _ _ _) _ _ _)); go_step)
  refine wp_plain [.box 23 (bl (b)), .imm (.bool false)] (by kernel_rfl) (fun β => ?_) (fun β w1 hD => ?_)
  · refine Obs.cons (Ob.box rfl rfl (by kernel_rfl)) ?_
    refine Obs.cons (Ob.imm rfl (fun w => by kernel_rfl)) ?_
    exact Obs.nil
  obtain ⟨hf_b0, hr_b0⟩ := hD.bx 0 _ _ rfl
  replace hf_b0 := Nat.le_trans hW.2.2 hf_b0
  replace hW := grown_trans hW hD.gr
  clear hD
  simp only [finAct, putAll, valsFrom, Plan.value, Act.put, List.setIfInBounds_toArray, List.set_cons_zero, List.set_cons_succ]
  replace hGl := hGl0.grown hW
  generalize β 0 = b0 at *
  repeat ((fail_if_success (with_reducible show Code.wp _ (Code.region _ _ _) _ _ _)); go_step)
  refine wp_plain [.val (bv (b)), .val (.tuple #[pv (ng (rt (uu (b % H)) (vv (b % H)))) (b % H), .int .i64 (0)]), .imm (.tuple #[pv (ng (rt (uu (b % H)) (vv (b % H)))) (b % H), .int .i64 (0)]), .imm (pv (ng (rt (uu (b % H)) (vv (b % H)))) (b % H)), .imm (.int .i64 (0)), .new 37 64, .put 5 5 (fun _ => pcs (ng (rt (uu (b % H)) (vv (b % H)))) (b % H)), .imm (.int .i64 (0))] (by kernel_rfl) (fun β => ?_) (fun β w2 hD => ?_)
  · refine Obs.cons (Ob.load (b0) 0 (bl (b)) rfl rfl (by kernel_rfl) hr_b0 Tryd.underlying23 rfl (by rw [bl_length]; exact info32)) ?_
    refine Obs.cons (Ob.call 28 #[bv (b)] rfl (fun w => by kernel_rfl) (fun w hg => D_odd b hb hs hy hr h0 w (hGl.1.grown hg))) ?_
    refine Obs.cons (Ob.imm rfl (fun w => by kernel_rfl)) ?_
    refine Obs.cons (Ob.imm rfl (fun w => by kernel_rfl)) ?_
    refine Obs.cons (Ob.imm rfl (fun w => by kernel_rfl)) ?_
    refine Obs.cons (Ob.new _ rfl rfl zeroP (by simp [pcs_length])) ?_
    refine Obs.cons (Ob.put 37 rfl rfl rfl (by kernel_rfl) (by kernel_rfl) (by rw [pcs_length]; exact infoP) (pcs_one _ _)) ?_
    refine Obs.cons (Ob.imm rfl (fun w => by kernel_rfl)) ?_
    exact Obs.nil
  replace hr_b0 := rangeAt_grown hr_b0 hD.gr
  obtain ⟨hf_b1, ht_b1⟩ := hD.nw 5 _ _ rfl
  have hr_b1 : w2.rangeAt (β 5) 0 (pcs (ng (rt (uu (b % H)) (vv (b % H)))) (b % H)) := hD.rg 6 5 5 (fun _ => pcs (ng (rt (uu (b % H)) (vv (b % H)))) (b % H)) rfl
  replace hf_b1 := Nat.le_trans hW.2.2 hf_b1
  replace hW := grown_trans hW hD.gr
  clear hD
  simp only [finAct, putAll, valsFrom, Plan.value, Act.put, List.setIfInBounds_toArray, List.set_cons_zero, List.set_cons_succ]
  replace hGl := hGl0.grown hW
  generalize β (0 + 1 + 1 + 1 + 1 + 1) = b1 at *
  have hr_b1x : w2.rangeAt b1 0 (bl (ng (rt (uu (b % H)) (vv (b % H))))) := rangeAt_left hr_b1
  have hr_b1y : w2.rangeAt b1 32 (bl (b % H)) := rangeAt_right 32 (bl_length _) hr_b1
  repeat ((fail_if_success (with_reducible show Code.wp _ (Code.region _ _ _) _ _ _)); go_step)
  refine wp_plain [.val (bv (b)), .val (.tuple #[pv (ng (rt (uu (b % H)) (vv (b % H)))) (b % H), .int .i64 (0)]), .imm (.tuple #[pv (ng (rt (uu (b % H)) (vv (b % H)))) (b % H), .int .i64 (0)]), .imm (pv (ng (rt (uu (b % H)) (vv (b % H)))) (b % H)), .imm (.int .i64 (0)), .new 39 64, .put 5 5 (fun _ => pcs (ng (rt (uu (b % H)) (vv (b % H)))) (b % H)), .imm (.int .i64 (0))] (by kernel_rfl) (fun β => ?_) (fun β w3 hD => ?_)
  · refine Obs.cons (Ob.load (b0) 0 (bl (b)) rfl rfl (by kernel_rfl) hr_b0 Tryd.underlying23 rfl (by rw [bl_length]; exact info32)) ?_
    refine Obs.cons (Ob.call 36 #[bv (b)] rfl (fun w => by kernel_rfl) (fun w hg => RD_odd b hb hs hy hr h0 w (hGl.2.grown hg))) ?_
    refine Obs.cons (Ob.imm rfl (fun w => by kernel_rfl)) ?_
    refine Obs.cons (Ob.imm rfl (fun w => by kernel_rfl)) ?_
    refine Obs.cons (Ob.imm rfl (fun w => by kernel_rfl)) ?_
    refine Obs.cons (Ob.new _ rfl rfl zeroQ (by simp [pcs_length])) ?_
    refine Obs.cons (Ob.put 39 rfl rfl rfl (by kernel_rfl) (by kernel_rfl) (by rw [pcs_length]; exact infoQ) (pcs_one _ _)) ?_
    refine Obs.cons (Ob.imm rfl (fun w => by kernel_rfl)) ?_
    exact Obs.nil
  replace hr_b0 := rangeAt_grown hr_b0 hD.gr
  replace hr_b1 := rangeAt_grown hr_b1 hD.gr
  replace hr_b1x := rangeAt_grown hr_b1x hD.gr
  replace hr_b1y := rangeAt_grown hr_b1y hD.gr
  replace ht_b1 := there_grown ht_b1 hD.gr
  obtain ⟨hf_b2, ht_b2⟩ := hD.nw 5 _ _ rfl
  have hr_b2 : w3.rangeAt (β 5) 0 (pcs (ng (rt (uu (b % H)) (vv (b % H)))) (b % H)) := hD.rg 6 5 5 (fun _ => pcs (ng (rt (uu (b % H)) (vv (b % H)))) (b % H)) rfl
  replace hf_b2 := Nat.le_trans hW.2.2 hf_b2
  replace hW := grown_trans hW hD.gr
  clear hD
  simp only [finAct, putAll, valsFrom, Plan.value, Act.put, List.setIfInBounds_toArray, List.set_cons_zero, List.set_cons_succ]
  replace hGl := hGl0.grown hW
  generalize β (0 + 1 + 1 + 1 + 1 + 1) = b2 at *
  have hr_b2x : w3.rangeAt b2 0 (bl (ng (rt (uu (b % H)) (vv (b % H))))) := rangeAt_left hr_b2
  have hr_b2y : w3.rangeAt b2 32 (bl (b % H)) := rangeAt_right 32 (bl_length _) hr_b2
  repeat ((fail_if_success (with_reducible show Code.wp _ (Code.region _ _ _) _ _ _)); go_step)
  refine wp_plain [.val (pv (ng (rt (uu (b % H)) (vv (b % H)))) (b % H)), .val (pv (ng (rt (uu (b % H)) (vv (b % H)))) (b % H)), .val (.bool true), .imm (.bool true), .imm (.int .i64 (0)), .val (.int .i64 (0)), .imm (.int .i64 (0)), .imm (.bool true), .imm (.bool true), .imm (.bool true)] (by kernel_rfl) (fun β => ?_) (fun β w4 hD => ?_)
  · refine Obs.cons (Ob.load (b1) 0 (pcs (ng (rt (uu (b % H)) (vv (b % H)))) (b % H)) rfl rfl (by kernel_rfl) hr_b1 Tryd.underlying37 rfl (by rw [pcs_length]; exact infoP)) ?_
    refine Obs.cons (Ob.load (b2) 0 (pcs (ng (rt (uu (b % H)) (vv (b % H)))) (b % H)) rfl rfl (by kernel_rfl) hr_b2 Tryd.underlying39 rfl (by rw [pcs_length]; exact infoQ)) ?_
    refine Obs.cons (Ob.call 21 #[pv (ng (rt (uu (b % H)) (vv (b % H)))) (b % H), pv (ng (rt (uu (b % H)) (vv (b % H)))) (b % H)] rfl (fun w => by kernel_rfl) (fun w hg => alike_1 (ng (rt (uu (b % H)) (vv (b % H)))) (b % H) (fng_lt _) (low_lt b) w)) ?_
    refine Obs.cons (Ob.imm rfl (fun w => by kernel_rfl)) ?_
    refine Obs.cons (Ob.imm (by kernel_rfl) (fun w => by kernel_rfl)) ?_
    refine Obs.cons (Ob.call 32 #[.int .i64 (0)] (by kernel_rfl) (fun w => by kernel_rfl) (fun w hg => num_is (0) w)) ?_
    refine Obs.cons (Ob.imm (by kernel_rfl) (fun w => by kernel_rfl)) ?_
    refine Obs.cons (Ob.imm (by kernel_rfl) (fun w => by kernel_rfl)) ?_
    refine Obs.cons (Ob.imm rfl (fun w => by kernel_rfl)) ?_
    refine Obs.cons (Ob.imm rfl (fun w => by kernel_rfl)) ?_
    exact Obs.nil
  replace hr_b0 := rangeAt_grown hr_b0 hD.gr
  replace hr_b1 := rangeAt_grown hr_b1 hD.gr
  replace hr_b1x := rangeAt_grown hr_b1x hD.gr
  replace hr_b1y := rangeAt_grown hr_b1y hD.gr
  replace hr_b2 := rangeAt_grown hr_b2 hD.gr
  replace hr_b2x := rangeAt_grown hr_b2x hD.gr
  replace hr_b2y := rangeAt_grown hr_b2y hD.gr
  replace ht_b1 := there_grown ht_b1 hD.gr
  replace ht_b2 := there_grown ht_b2 hD.gr
  replace hW := grown_trans hW hD.gr
  clear hD
  simp only [finAct, putAll, valsFrom, Plan.value, Act.put, List.setIfInBounds_toArray, List.set_cons_zero, List.set_cons_succ]
  replace hGl := hGl0.grown hW
  repeat go_step
  go_ret
  exact ⟨rfl, hW⟩

set_option maxRecDepth 100000 in
set_option maxHeartbeats 2000000 in
theorem Pd_even0 (b : Nat) (hb : b < M) (hs :  b < H) (hy : b % H < p) (hr : rok (uu (b % H)) (vv (b % H))) (h0 : rt (uu (b % H)) (vv (b % H)) = 0) (w : World) (hGl0 : GD w) :
    Calls Tryd.prog 7 #[bv b] w fun e w' => e = .returned (.bool true) ∧ Grown w w' := by
  have hW := Grown.refl w
  have hGl := hGl0
  go_enter Tryd.func7, Tryd.ntmps7
  repeat ((fail_if_success (with_reducible show Code.wp _ (Code.region _ _ _) _ _ _)); go_step)
  refine wp_plain [.box 23 (bl (b)), .imm (.bool false)] (by kernel_rfl) (fun β => ?_) (fun β w1 hD => ?_)
  · refine Obs.cons (Ob.box rfl rfl (by kernel_rfl)) ?_
    refine Obs.cons (Ob.imm rfl (fun w => by kernel_rfl)) ?_
    exact Obs.nil
  obtain ⟨hf_b0, hr_b0⟩ := hD.bx 0 _ _ rfl
  replace hf_b0 := Nat.le_trans hW.2.2 hf_b0
  replace hW := grown_trans hW hD.gr
  clear hD
  simp only [finAct, putAll, valsFrom, Plan.value, Act.put, List.setIfInBounds_toArray, List.set_cons_zero, List.set_cons_succ]
  replace hGl := hGl0.grown hW
  generalize β 0 = b0 at *
  repeat ((fail_if_success (with_reducible show Code.wp _ (Code.region _ _ _) _ _ _)); go_step)
  refine wp_plain [.val (bv (b)), .val (.tuple #[pv (rt (uu (b % H)) (vv (b % H))) (b % H), .int .i64 (0)]), .imm (.tuple #[pv (rt (uu (b % H)) (vv (b % H))) (b % H), .int .i64 (0)]), .imm (pv (rt (uu (b % H)) (vv (b % H))) (b % H)), .imm (.int .i64 (0)), .new 37 64, .put 5 5 (fun _ => pcs (rt (uu (b % H)) (vv (b % H))) (b % H)), .imm (.int .i64 (0))] (by kernel_rfl) (fun β => ?_) (fun β w2 hD => ?_)
  · refine Obs.cons (Ob.load (b0) 0 (bl (b)) rfl rfl (by kernel_rfl) hr_b0 Tryd.underlying23 rfl (by rw [bl_length]; exact info32)) ?_
    refine Obs.cons (Ob.call 28 #[bv (b)] rfl (fun w => by kernel_rfl) (fun w hg => D_even b hb hs hy hr w (hGl.1.grown hg))) ?_
    refine Obs.cons (Ob.imm rfl (fun w => by kernel_rfl)) ?_
    refine Obs.cons (Ob.imm rfl (fun w => by kernel_rfl)) ?_
    refine Obs.cons (Ob.imm rfl (fun w => by kernel_rfl)) ?_
    refine Obs.cons (Ob.new _ rfl rfl zeroP (by simp [pcs_length])) ?_
    refine Obs.cons (Ob.put 37 rfl rfl rfl (by kernel_rfl) (by kernel_rfl) (by rw [pcs_length]; exact infoP) (pcs_one _ _)) ?_
    refine Obs.cons (Ob.imm rfl (fun w => by kernel_rfl)) ?_
    exact Obs.nil
  replace hr_b0 := rangeAt_grown hr_b0 hD.gr
  obtain ⟨hf_b1, ht_b1⟩ := hD.nw 5 _ _ rfl
  have hr_b1 : w2.rangeAt (β 5) 0 (pcs (rt (uu (b % H)) (vv (b % H))) (b % H)) := hD.rg 6 5 5 (fun _ => pcs (rt (uu (b % H)) (vv (b % H))) (b % H)) rfl
  replace hf_b1 := Nat.le_trans hW.2.2 hf_b1
  replace hW := grown_trans hW hD.gr
  clear hD
  simp only [finAct, putAll, valsFrom, Plan.value, Act.put, List.setIfInBounds_toArray, List.set_cons_zero, List.set_cons_succ]
  replace hGl := hGl0.grown hW
  generalize β (0 + 1 + 1 + 1 + 1 + 1) = b1 at *
  have hr_b1x : w2.rangeAt b1 0 (bl (rt (uu (b % H)) (vv (b % H)))) := rangeAt_left hr_b1
  have hr_b1y : w2.rangeAt b1 32 (bl (b % H)) := rangeAt_right 32 (bl_length _) hr_b1
  repeat ((fail_if_success (with_reducible show Code.wp _ (Code.region _ _ _) _ _ _)); go_step)
  refine wp_plain [.val (bv (b)), .val (.tuple #[pv (rt (uu (b % H)) (vv (b % H))) (b % H), .int .i64 (0)]), .imm (.tuple #[pv (rt (uu (b % H)) (vv (b % H))) (b % H), .int .i64 (0)]), .imm (pv (rt (uu (b % H)) (vv (b % H))) (b % H)), .imm (.int .i64 (0)), .new 39 64, .put 5 5 (fun _ => pcs (rt (uu (b % H)) (vv (b % H))) (b % H)), .imm (.int .i64 (0))] (by kernel_rfl) (fun β => ?_) (fun β w3 hD => ?_)
  · refine Obs.cons (Ob.load (b0) 0 (bl (b)) rfl rfl (by kernel_rfl) hr_b0 Tryd.underlying23 rfl (by rw [bl_length]; exact info32)) ?_
    refine Obs.cons (Ob.call 36 #[bv (b)] rfl (fun w => by kernel_rfl) (fun w hg => RD_even0 b hb hs hy hr h0 w (hGl.2.grown hg))) ?_
    refine Obs.cons (Ob.imm rfl (fun w => by kernel_rfl)) ?_
    refine Obs.cons (Ob.imm rfl (fun w => by kernel_rfl)) ?_
    refine Obs.cons (Ob.imm rfl (fun w => by kernel_rfl)) ?_
    refine Obs.cons (Ob.new _ rfl rfl zeroQ (by simp [pcs_length])) ?_
    refine Obs.cons (Ob.put 39 rfl rfl rfl (by kernel_rfl) (by kernel_rfl) (by rw [pcs_length]; exact infoQ) (pcs_one _ _)) ?_
    refine Obs.cons (Ob.imm rfl (fun w => by kernel_rfl)) ?_
    exact Obs.nil
  replace hr_b0 := rangeAt_grown hr_b0 hD.gr
  replace hr_b1 := rangeAt_grown hr_b1 hD.gr
  replace hr_b1x := rangeAt_grown hr_b1x hD.gr
  replace hr_b1y := rangeAt_grown hr_b1y hD.gr
  replace ht_b1 := there_grown ht_b1 hD.gr
  obtain ⟨hf_b2, ht_b2⟩ := hD.nw 5 _ _ rfl
  have hr_b2 : w3.rangeAt (β 5) 0 (pcs (rt (uu (b % H)) (vv (b % H))) (b % H)) := hD.rg 6 5 5 (fun _ => pcs (rt (uu (b % H)) (vv (b % H))) (b % H)) rfl
  replace hf_b2 := Nat.le_trans hW.2.2 hf_b2
  replace hW := grown_trans hW hD.gr
  clear hD
  simp only [finAct, putAll, valsFrom, Plan.value, Act.put, List.setIfInBounds_toArray, List.set_cons_zero, List.set_cons_succ]
  replace hGl := hGl0.grown hW
  generalize β (0 + 1 + 1 + 1 + 1 + 1) = b2 at *
  have hr_b2x : w3.rangeAt b2 0 (bl (rt (uu (b % H)) (vv (b % H)))) := rangeAt_left hr_b2
  have hr_b2y : w3.rangeAt b2 32 (bl (b % H)) := rangeAt_right 32 (bl_length _) hr_b2
  repeat ((fail_if_success (with_reducible show Code.wp _ (Code.region _ _ _) _ _ _)); go_step)
  refine wp_plain [.val (pv (rt (uu (b % H)) (vv (b % H))) (b % H)), .val (pv (rt (uu (b % H)) (vv (b % H))) (b % H)), .val (.bool true), .imm (.bool true), .imm (.int .i64 (0)), .val (.int .i64 (0)), .imm (.int .i64 (0)), .imm (.bool true), .imm (.bool true), .imm (.bool true)] (by kernel_rfl) (fun β => ?_) (fun β w4 hD => ?_)
  · refine Obs.cons (Ob.load (b1) 0 (pcs (rt (uu (b % H)) (vv (b % H))) (b % H)) rfl rfl (by kernel_rfl) hr_b1 Tryd.underlying37 rfl (by rw [pcs_length]; exact infoP)) ?_
    refine Obs.cons (Ob.load (b2) 0 (pcs (rt (uu (b % H)) (vv (b % H))) (b % H)) rfl rfl (by kernel_rfl) hr_b2 Tryd.underlying39 rfl (by rw [pcs_length]; exact infoQ)) ?_
    refine Obs.cons (Ob.call 21 #[pv (rt (uu (b % H)) (vv (b % H))) (b % H), pv (rt (uu (b % H)) (vv (b % H))) (b % H)] rfl (fun w => by kernel_rfl) (fun w hg => alike_1 (rt (uu (b % H)) (vv (b % H))) (b % H) (rt_M _ _) (low_lt b) w)) ?_
    refine Obs.cons (Ob.imm rfl (fun w => by kernel_rfl)) ?_
    refine Obs.cons (Ob.imm (by kernel_rfl) (fun w => by kernel_rfl)) ?_
    refine Obs.cons (Ob.call 32 #[.int .i64 (0)] (by kernel_rfl) (fun w => by kernel_rfl) (fun w hg => num_is (0) w)) ?_
    refine Obs.cons (Ob.imm (by kernel_rfl) (fun w => by kernel_rfl)) ?_
    refine Obs.cons (Ob.imm (by kernel_rfl) (fun w => by kernel_rfl)) ?_
    refine Obs.cons (Ob.imm rfl (fun w => by kernel_rfl)) ?_
    refine Obs.cons (Ob.imm rfl (fun w => by kernel_rfl)) ?_
    exact Obs.nil
  replace hr_b0 := rangeAt_grown hr_b0 hD.gr
  replace hr_b1 := rangeAt_grown hr_b1 hD.gr
  replace hr_b1x := rangeAt_grown hr_b1x hD.gr
  replace hr_b1y := rangeAt_grown hr_b1y hD.gr
  replace hr_b2 := rangeAt_grown hr_b2 hD.gr
  replace hr_b2x := rangeAt_grown hr_b2x hD.gr
  replace hr_b2y := rangeAt_grown hr_b2y hD.gr
  replace ht_b1 := there_grown ht_b1 hD.gr
  replace ht_b2 := there_grown ht_b2 hD.gr
  replace hW := grown_trans hW hD.gr
  clear hD
  simp only [finAct, putAll, valsFrom, Plan.value, Act.put, List.setIfInBounds_toArray, List.set_cons_zero, List.set_cons_succ]
  replace hGl := hGl0.grown hW
  repeat go_step
  go_ret
  exact ⟨rfl, hW⟩

set_option maxRecDepth 100000 in
set_option maxHeartbeats 2000000 in
theorem Pd_even1 (b : Nat) (hb : b < M) (hs :  b < H) (hy : b % H < p) (hr : rok (uu (b % H)) (vv (b % H))) (h0 : ¬ rt (uu (b % H)) (vv (b % H)) = 0) (w : World) (hGl0 : GD w) :
    Calls Tryd.prog 7 #[bv b] w fun e w' => e = .returned (.bool true) ∧ Grown w w' := by
  have hW := Grown.refl w
  have hGl := hGl0
  go_enter Tryd.func7, Tryd.ntmps7
  repeat ((fail_if_success (with_reducible show Code.wp _ (Code.region _ _ _) _ _ _)); go_step)
  refine wp_plain [.box 23 (bl (b)), .imm (.bool false)] (by kernel_rfl) (fun β => ?_) (fun β w1 hD => ?_)
  · refine Obs.cons (Ob.box rfl rfl (by kernel_rfl)) ?_
    refine Obs.cons (Ob.imm rfl (fun w => by kernel_rfl)) ?_
    exact Obs.nil
  obtain ⟨hf_b0, hr_b0⟩ := hD.bx 0 _ _ rfl
  replace hf_b0 := Nat.le_trans hW.2.2 hf_b0
  replace hW := grown_trans hW hD.gr
  clear hD
  simp only [finAct, putAll, valsFrom, Plan.value, Act.put, List.setIfInBounds_toArray, List.set_cons_zero, List.set_cons_succ]
  replace hGl := hGl0.grown hW
  generalize β 0 = b0 at *
  repeat ((fail_if_success (with_reducible show Code.wp _ (Code.region _ _ _) _ _ _)); go_step)
  refine wp_plain [.val (bv (b)), .val (.tuple #[pv (rt (uu (b % H)) (vv (b % H))) (b % H), .int .i64 (0)]), .imm (.tuple #[pv (rt (uu (b % H)) (vv (b % H))) (b % H), .int .i64 (0)]), .imm (pv (rt (uu (b % H)) (vv (b % H))) (b % H)), .imm (.int .i64 (0)), .new 37 64, .put 5 5 (fun _ => pcs (rt (uu (b % H)) (vv (b % H))) (b % H)), .imm (.int .i64 (0))] (by kernel_rfl) (fun β => ?_) (fun β w2 hD => ?_)
  · refine Obs.cons (Ob.load (b0) 0 (bl (b)) rfl rfl (by kernel_rfl) hr_b0 Tryd.underlying23 rfl (by rw [bl_length]; exact info32)) ?_
    refine Obs.cons (Ob.call 28 #[bv (b)] rfl (fun w => by kernel_rfl) (fun w hg => D_even b hb hs hy hr w (hGl.1.grown hg))) ?_
    refine Obs.cons (Ob.imm rfl (fun w => by kernel_rfl)) ?_
    refine Obs.cons (Ob.imm rfl (fun w => by kernel_rfl)) ?_
    refine Obs.cons (Ob.imm rfl (fun w => by kernel_rfl)) ?_
    refine Obs.cons (Ob.new _ rfl rfl zeroP (by simp [pcs_length])) ?_
    refine Obs.cons (Ob.put 37 rfl rfl rfl (by kernel_rfl) (by kernel_rfl) (by rw [pcs_length]; exact infoP) (pcs_one _ _)) ?_
    refine Obs.cons (Ob.imm rfl (fun w => by kernel_rfl)) ?_
    exact Obs.nil
  replace hr_b0 := rangeAt_grown hr_b0 hD.gr
  obtain ⟨hf_b1, ht_b1⟩ := hD.nw 5 _ _ rfl
  have hr_b1 : w2.rangeAt (β 5) 0 (pcs (rt (uu (b % H)) (vv (b % H))) (b % H)) := hD.rg 6 5 5 (fun _ => pcs (rt (uu (b % H)) (vv (b % H))) (b % H)) rfl
  replace hf_b1 := Nat.le_trans hW.2.2 hf_b1
  replace hW := grown_trans hW hD.gr
  clear hD
  simp only [finAct, putAll, valsFrom, Plan.value, Act.put, List.setIfInBounds_toArray, List.set_cons_zero, List.set_cons_succ]
  replace hGl := hGl0.grown hW
  generalize β (0 + 1 + 1 + 1 + 1 + 1) = b1 at *
  have hr_b1x : w2.rangeAt b1 0 (bl (rt (uu (b % H)) (vv (b % H)))) := rangeAt_left hr_b1
  have hr_b1y : w2.rangeAt b1 32 (bl (b % H)) := rangeAt_right 32 (bl_length _) hr_b1
  repeat ((fail_if_success (with_reducible show Code.wp _ (Code.region _ _ _) _ _ _)); go_step)
  refine wp_plain [.val (bv (b)), .val (.tuple #[pv (rt (uu (b % H)) (vv (b % H))) (b % H), .int .i64 (0)]), .imm (.tuple #[pv (rt (uu (b % H)) (vv (b % H))) (b % H), .int .i64 (0)]), .imm (pv (rt (uu (b % H)) (vv (b % H))) (b % H)), .imm (.int .i64 (0)), .new 39 64, .put 5 5 (fun _ => pcs (rt (uu (b % H)) (vv (b % H))) (b % H)), .imm (.int .i64 (0))] (by kernel_rfl) (fun β => ?_) (fun β w3 hD => ?_)
  · refine Obs.cons (Ob.load (b0) 0 (bl (b)) rfl rfl (by kernel_rfl) hr_b0 Tryd.underlying23 rfl (by rw [bl_length]; exact info32)) ?_
    refine Obs.cons (Ob.call 36 #[bv (b)] rfl (fun w => by kernel_rfl) (fun w hg => RD_even1 b hb hs hy hr h0 w (hGl.2.grown hg))) ?_
    refine Obs.cons (Ob.imm rfl (fun w => by kernel_rfl)) ?_
    refine Obs.cons (Ob.imm rfl (fun w => by kernel_rfl)) ?_
    refine Obs.cons (Ob.imm rfl (fun w => by kernel_rfl)) ?_
    refine Obs.cons (Ob.new _ rfl rfl zeroQ (by simp [pcs_length])) ?_
    refine Obs.cons (Ob.put 39 rfl rfl rfl (by kernel_rfl) (by kernel_rfl) (by rw [pcs_length]; exact infoQ) (pcs_one _ _)) ?_
    refine Obs.cons (Ob.imm rfl (fun w => by kernel_rfl)) ?_
    exact Obs.nil
  replace hr_b0 := rangeAt_grown hr_b0 hD.gr
  replace hr_b1 := rangeAt_grown hr_b1 hD.gr
  replace hr_b1x := rangeAt_grown hr_b1x hD.gr
  replace hr_b1y := rangeAt_grown hr_b1y hD.gr
  replace ht_b1 := there_grown ht_b1 hD.gr
  obtain ⟨hf_b2, ht_b2⟩ := hD.nw 5 _ _ rfl
  have hr_b2 : w3.rangeAt (β 5) 0 (pcs (rt (uu (b % H)) (vv (b % H))) (b % H)) := hD.rg 6 5 5 (fun _ => pcs (rt (uu (b % H)) (vv (b % H))) (b % H)) rfl
  replace hf_b2 := Nat.le_trans hW.2.2 hf_b2
  replace hW := grown_trans hW hD.gr
  clear hD
  simp only [finAct, putAll, valsFrom, Plan.value, Act.put, List.setIfInBounds_toArray, List.set_cons_zero, List.set_cons_succ]
  replace hGl := hGl0.grown hW
  generalize β (0 + 1 + 1 + 1 + 1 + 1) = b2 at *
  have hr_b2x : w3.rangeAt b2 0 (bl (rt (uu (b % H)) (vv (b % H)))) := rangeAt_left hr_b2
  have hr_b2y : w3.rangeAt b2 32 (bl (b % H)) := rangeAt_right 32 (bl_length _) hr_b2
  repeat ((fail_if_success (with_reducible show Code.wp _ (Code.region _ _ _) _ _ _)); go_step)
  refine wp_plain [.val (pv (rt (uu (b % H)) (vv (b % H))) (b % H)), .val (pv (rt (uu (b % H)) (vv (b % H))) (b % H)), .val (.bool true), .imm (.bool true), .imm (.int .i64 (0)), .val (.int .i64 (0)), .imm (.int .i64 (0)), .imm (.bool true), .imm (.bool true), .imm (.bool true)] (by kernel_rfl) (fun β => ?_) (fun β w4 hD => ?_)
  · refine Obs.cons (Ob.load (b1) 0 (pcs (rt (uu (b % H)) (vv (b % H))) (b % H)) rfl rfl (by kernel_rfl) hr_b1 Tryd.underlying37 rfl (by rw [pcs_length]; exact infoP)) ?_
    refine Obs.cons (Ob.load (b2) 0 (pcs (rt (uu (b % H)) (vv (b % H))) (b % H)) rfl rfl (by kernel_rfl) hr_b2 Tryd.underlying39 rfl (by rw [pcs_length]; exact infoQ)) ?_
    refine Obs.cons (Ob.call 21 #[pv (rt (uu (b % H)) (vv (b % H))) (b % H), pv (rt (uu (b % H)) (vv (b % H))) (b % H)] rfl (fun w => by kernel_rfl) (fun w hg => alike_1 (rt (uu (b % H)) (vv (b % H))) (b % H) (rt_M _ _) (low_lt b) w)) ?_
    refine Obs.cons (Ob.imm rfl (fun w => by kernel_rfl)) ?_
    refine Obs.cons (Ob.imm (by kernel_rfl) (fun w => by kernel_rfl)) ?_
    refine Obs.cons (Ob.call 32 #[.int .i64 (0)] (by kernel_rfl) (fun w => by kernel_rfl) (fun w hg => num_is (0) w)) ?_
    refine Obs.cons (Ob.imm (by kernel_rfl) (fun w => by kernel_rfl)) ?_
    refine Obs.cons (Ob.imm (by kernel_rfl) (fun w => by kernel_rfl)) ?_
    refine Obs.cons (Ob.imm rfl (fun w => by kernel_rfl)) ?_
    refine Obs.cons (Ob.imm rfl (fun w => by kernel_rfl)) ?_
    exact Obs.nil
  replace hr_b0 := rangeAt_grown hr_b0 hD.gr
  replace hr_b1 := rangeAt_grown hr_b1 hD.gr
  replace hr_b1x := rangeAt_grown hr_b1x hD.gr
  replace hr_b1y := rangeAt_grown hr_b1y hD.gr
  replace hr_b2 := rangeAt_grown hr_b2 hD.gr
  replace hr_b2x := rangeAt_grown hr_b2x hD.gr
  replace hr_b2y := rangeAt_grown hr_b2y hD.gr
  replace ht_b1 := there_grown ht_b1 hD.gr
  replace ht_b2 := there_grown ht_b2 hD.gr
  replace hW := grown_trans hW hD.gr
  clear hD
  simp only [finAct, putAll, valsFrom, Plan.value, Act.put, List.setIfInBounds_toArray, List.set_cons_zero, List.set_cons_succ]
  replace hGl := hGl0.grown hW
  repeat go_step
  go_ret
  exact ⟨rfl, hW⟩

end Go.Proofs.YtoimglbjepppmaaDoor
