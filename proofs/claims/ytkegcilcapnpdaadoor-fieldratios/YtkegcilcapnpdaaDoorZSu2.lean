import Derived.Test.YtkegcilcapnpdaaDoorZSt
import Derived.Test.YtkegcilcapnpdaaDoorZP6
import Derived.Test.YtkegcilcapnpdaaDoorMg
import Derived.Test.YtkegcilcapnpdaaDoorMe
import Derived.Test.YtkegcilcapnpdaaDoorZLaid5
namespace Go.Proofs.YtkegcilcapnpdaaDoor
open Go.RowKit Go.Shelf FieldNum

structure Gr (w : World) : Prop where
  pr : Gp w
  one : w.rangeAt 0 0 (nl 1)
  im : w.rangeAt 4 0 (nl Im)
  pw : w.rangeAt 5 0 PW
theorem Gr.grown {w w' : World} (h : Gr w) (hg : Grown w w') : Gr w' := ⟨h.pr.grown hg, rangeAt_grown h.one hg, rangeAt_grown h.im hg, rangeAt_grown h.pw hg⟩
theorem Gr.g0 {w : World} (h : Gr w) : G0 w := ⟨h.pw⟩
theorem Gr.g1 {w : World} (h : Gr w) : G1 w := ⟨h.im, h.pw⟩
set_option maxRecDepth 100000 in
set_option maxHeartbeats 4000000 in
theorem ratios_yes (u v : Nat) (hu : u < S256) (hv : v < S256) (h : rok u v) (w : World) (hGl0 : Gr w) : Calls Tryd.prog 8 #[bv u, bv v] w fun ex w' => ex = .returned (.bool true) ∧ Grown w w' := by
  have hW := Grown.refl w
  have hGl := hGl0
  go_enter Tryd.func8, Tryd.ntmps8
  repeat ((fail_if_success (with_reducible show Code.wp _ (Code.region _ _ _) _ _ _)); go_step)
  refine wp_plain [.box 23 (bl (u)), .box 23 (bl (v)), .imm (.bool false)] (by kernel_rfl) (fun β => ?_) (fun β w1 hD => ?_)
  · refine Obs.cons (Ob.box rfl rfl (by kernel_rfl)) ?_
    refine Obs.cons (Ob.box rfl rfl (by kernel_rfl)) ?_
    refine Obs.cons (Ob.imm rfl (fun w => by kernel_rfl)) ?_
    exact Obs.nil
  obtain ⟨hf_b0, hr_b0⟩ := hD.bx 0 _ _ rfl
  replace hf_b0 := Nat.le_trans hW.2.2 hf_b0
  obtain ⟨hf_b1, hr_b1⟩ := hD.bx 1 _ _ rfl
  replace hf_b1 := Nat.le_trans hW.2.2 hf_b1
  replace hW := grown_trans hW hD.gr
  clear hD
  simp only [finAct, putAll, valsFrom, Plan.value, Act.put, List.setIfInBounds_toArray, List.set_cons_zero, List.set_cons_succ]
  replace hGl := hGl0.grown hW
  generalize β 0 = b0 at *
  generalize β (0 + 1) = b1 at *
  repeat ((fail_if_success (with_reducible show Code.wp _ (Code.region _ _ _) _ _ _)); go_step)
  refine wp_plain [.val (bv (u)), .val (bv (v)), .val (.tuple #[bv (rt (u) (v)), .bool true]), .imm (.tuple #[bv (rt (u) (v)), .bool true]), .imm (bv (rt (u) (v))), .imm (.bool true), .new 23 32, .put 6 6 (fun _ => bl (rt (u) (v))), .imm (.bool true)] (by kernel_rfl) (fun β => ?_) (fun β w2 hD => ?_)
  · refine Obs.cons (Ob.load (b0) 0 (bl (u)) rfl rfl (by kernel_rfl) hr_b0 Tryd.underlying23 rfl (by rw [bl_length]; exact info32)) ?_
    refine Obs.cons (Ob.load (b1) 0 (bl (v)) rfl rfl (by kernel_rfl) hr_b1 Tryd.underlying23 rfl (by rw [bl_length]; exact info32)) ?_
    refine Obs.cons (Ob.call 36 #[bv (u), bv (v)] rfl (fun w => by kernel_rfl) (fun w hg => SqrtR_yes (u) (v) hu hv h w (hGl.grown hg).pr)) ?_
    refine Obs.cons (Ob.imm rfl (fun w => by kernel_rfl)) ?_
    refine Obs.cons (Ob.imm rfl (fun w => by kernel_rfl)) ?_
    refine Obs.cons (Ob.imm rfl (fun w => by kernel_rfl)) ?_
    refine Obs.cons (Ob.new _ rfl rfl zero32.1 (by simp [bl_length])) ?_
    refine Obs.cons (Ob.put 23 rfl rfl rfl (by kernel_rfl) (by kernel_rfl) (by rw [bl_length]; exact info32) (bl_one _)) ?_
    refine Obs.cons (Ob.imm rfl (fun w => by kernel_rfl)) ?_
    exact Obs.nil
  replace hr_b0 := rangeAt_grown hr_b0 hD.gr
  replace hr_b1 := rangeAt_grown hr_b1 hD.gr
  obtain ⟨hf_b2, ht_b2⟩ := hD.nw 6 _ _ rfl
  have hr_b2 : w2.rangeAt (β 6) 0 (bl (rt (u) (v))) := hD.rg 7 6 6 (fun _ => bl (rt (u) (v))) rfl
  replace hf_b2 := Nat.le_trans hW.2.2 hf_b2
  replace hW := grown_trans hW hD.gr
  clear hD
  simp only [finAct, putAll, valsFrom, Plan.value, Act.put, List.setIfInBounds_toArray, List.set_cons_zero, List.set_cons_succ]
  replace hGl := hGl0.grown hW
  generalize β (0 + 1 + 1 + 1 + 1 + 1 + 1) = b2 at *
  repeat ((fail_if_success (with_reducible show Code.wp _ (Code.region _ _ _) _ _ _)); go_step)
  refine wp_plain [.val (bv (u)), .val (bv (v)), .val (.tuple #[bv (rt (u) (v)), .bool true]), .imm (.tuple #[bv (rt (u) (v)), .bool true]), .imm (bv (rt (u) (v))), .imm (.bool true), .new 23 32, .put 6 6 (fun _ => bl (rt (u) (v))), .imm (.bool true)] (by kernel_rfl) (fun β => ?_) (fun β w3 hD => ?_)
  · refine Obs.cons (Ob.load (b0) 0 (bl (u)) rfl rfl (by kernel_rfl) hr_b0 Tryd.underlying23 rfl (by rw [bl_length]; exact info32)) ?_
    refine Obs.cons (Ob.load (b1) 0 (bl (v)) rfl rfl (by kernel_rfl) hr_b1 Tryd.underlying23 rfl (by rw [bl_length]; exact info32)) ?_
    refine Obs.cons (Ob.call 18 #[bv (u), bv (v)] rfl (fun w => by kernel_rfl) (fun w hg => SqrtRatio_yes (u) (v) hu hv h w (hGl.grown hg).g1)) ?_
    refine Obs.cons (Ob.imm rfl (fun w => by kernel_rfl)) ?_
    refine Obs.cons (Ob.imm rfl (fun w => by kernel_rfl)) ?_
    refine Obs.cons (Ob.imm rfl (fun w => by kernel_rfl)) ?_
    refine Obs.cons (Ob.new _ rfl rfl zero32.1 (by simp [bl_length])) ?_
    refine Obs.cons (Ob.put 23 rfl rfl rfl (by kernel_rfl) (by kernel_rfl) (by rw [bl_length]; exact info32) (bl_one _)) ?_
    refine Obs.cons (Ob.imm rfl (fun w => by kernel_rfl)) ?_
    exact Obs.nil
  replace hr_b0 := rangeAt_grown hr_b0 hD.gr
  replace hr_b1 := rangeAt_grown hr_b1 hD.gr
  replace hr_b2 := rangeAt_grown hr_b2 hD.gr
  replace ht_b2 := there_grown ht_b2 hD.gr
  obtain ⟨hf_b3, ht_b3⟩ := hD.nw 6 _ _ rfl
  have hr_b3 : w3.rangeAt (β 6) 0 (bl (rt (u) (v))) := hD.rg 7 6 6 (fun _ => bl (rt (u) (v))) rfl
  replace hf_b3 := Nat.le_trans hW.2.2 hf_b3
  replace hW := grown_trans hW hD.gr
  clear hD
  simp only [finAct, putAll, valsFrom, Plan.value, Act.put, List.setIfInBounds_toArray, List.set_cons_zero, List.set_cons_succ]
  replace hGl := hGl0.grown hW
  generalize β (0 + 1 + 1 + 1 + 1 + 1 + 1) = b3 at *
  repeat ((fail_if_success (with_reducible show Code.wp _ (Code.region _ _ _) _ _ _)); go_step)
  replace hr_b0 := rangeAt_grown hr_b0 (gdrew w3)
  replace hr_b1 := rangeAt_grown hr_b1 (gdrew w3)
  replace hr_b2 := rangeAt_grown hr_b2 (gdrew w3)
  replace hr_b3 := rangeAt_grown hr_b3 (gdrew w3)
  replace ht_b2 := there_grown ht_b2 (gdrew w3)
  replace ht_b3 := there_grown ht_b3 (gdrew w3)
  replace hW := grown_trans hW (gdrew w3)
  replace hGl := hGl0.grown hW
  refine wp_loose [.val (bv (rt (u) (v))), .val (bv (rt (u) (v))), .imm (.bool true), .imm (.bool true), .imm (.bool true), .imm (.bool true), .imm (.bool true), .imm (.bool true), .imm (.bool true), .val (bv (u)), .val (.int .i64 (leg (u))), .val (bv (u)), .val (.int .i64 (leg (u))), .imm (.bool true), .imm (.bool true), .imm (.bool true)] (by kernel_rfl) (by kernel_rfl) (fun β => ?_) (fun β w4 hD => ?_)
  · refine Obs.cons (Ob.load (b3) 0 (bl (rt (u) (v))) rfl rfl (by kernel_rfl) hr_b3 Tryd.underlying23 rfl (by rw [bl_length]; exact info32)) ?_
    refine Obs.cons (Ob.load (b2) 0 (bl (rt (u) (v))) rfl rfl (by kernel_rfl) hr_b2 Tryd.underlying23 rfl (by rw [bl_length]; exact info32)) ?_
    refine Obs.cons (Ob.imm rfl (fun w => exec_eql_same rfl (rt (u) (v)) (rt (u) (v)) (by kernel_rfl) (by kernel_rfl) (rt_S _ _) (rt_S _ _) (rfl) w)) ?_
    refine Obs.cons (Ob.imm rfl (fun w => by kernel_rfl)) ?_
    refine Obs.cons (Ob.imm (by kernel_rfl) (fun w => by kernel_rfl)) ?_
    refine Obs.cons (Ob.imm (by kernel_rfl) (fun w => by kernel_rfl)) ?_
    refine Obs.cons (Ob.imm (by kernel_rfl) (fun w => by kernel_rfl)) ?_
    refine Obs.cons (Ob.imm rfl (fun w => by kernel_rfl)) ?_
    refine Obs.cons (Ob.imm rfl (fun w => by kernel_rfl)) ?_
    refine Obs.cons (Ob.load (b0) 0 (bl (u)) (by kernel_rfl) rfl (by kernel_rfl) hr_b0 Tryd.underlying23 rfl (by rw [bl_length]; exact info32)) ?_
    refine Obs.cons (Ob.call 22 #[bv (u)] (by kernel_rfl) (fun w => by kernel_rfl) (fun w hg => Legendre_any (u) hu w (hGl.grown hg).g0.pw (hGl.grown hg).one)) ?_
    refine Obs.cons (Ob.load (b0) 0 (bl (u)) (by kernel_rfl) rfl (by kernel_rfl) hr_b0 Tryd.underlying23 rfl (by rw [bl_length]; exact info32)) ?_
    refine Obs.cons (Ob.call 37 #[bv (u)] (by kernel_rfl) (fun w => by kernel_rfl) (fun w hg => LegendreR (u) hu w (hGl.grown hg).pr)) ?_
    refine Obs.cons (Ob.imm (by kernel_rfl) (fun w => exec_eqlI rfl (leg (u)) (leg (u)) (by kernel_rfl) (by kernel_rfl) true (decide_eq_true rfl))) ?_
    refine Obs.cons (Ob.imm rfl (fun w => by kernel_rfl)) ?_
    refine Obs.cons (Ob.imm rfl (fun w => by kernel_rfl)) ?_
    exact Obs.nil
  replace hr_b0 := rangeAt_grown hr_b0 hD.gr
  replace hr_b1 := rangeAt_grown hr_b1 hD.gr
  replace hr_b2 := rangeAt_grown hr_b2 hD.gr
  replace hr_b3 := rangeAt_grown hr_b3 hD.gr
  replace ht_b2 := there_grown ht_b2 hD.gr
  replace ht_b3 := there_grown ht_b3 hD.gr
  replace hW := grown_trans hW hD.gr
  clear hD
  simp only [finAct, putAll, valsFrom, Plan.value, Act.put, List.setIfInBounds_toArray, List.set_cons_zero, List.set_cons_succ]
  replace hGl := hGl0.grown hW
  repeat go_step
  go_ret
  exact ⟨rfl, hW⟩

set_option maxRecDepth 100000 in
set_option maxHeartbeats 4000000 in
theorem ratios_no (u v : Nat) (hu : u < S256) (hv : v < S256) (h : ¬ rok u v) (w : World) (hGl0 : Gr w) : Calls Tryd.prog 8 #[bv u, bv v] w fun ex w' => ex = .returned (.bool true) ∧ Grown w w' := by
  have hW := Grown.refl w
  have hGl := hGl0
  go_enter Tryd.func8, Tryd.ntmps8
  repeat ((fail_if_success (with_reducible show Code.wp _ (Code.region _ _ _) _ _ _)); go_step)
  refine wp_plain [.box 23 (bl (u)), .box 23 (bl (v)), .imm (.bool false)] (by kernel_rfl) (fun β => ?_) (fun β w1 hD => ?_)
  · refine Obs.cons (Ob.box rfl rfl (by kernel_rfl)) ?_
    refine Obs.cons (Ob.box rfl rfl (by kernel_rfl)) ?_
    refine Obs.cons (Ob.imm rfl (fun w => by kernel_rfl)) ?_
    exact Obs.nil
  obtain ⟨hf_b0, hr_b0⟩ := hD.bx 0 _ _ rfl
  replace hf_b0 := Nat.le_trans hW.2.2 hf_b0
  obtain ⟨hf_b1, hr_b1⟩ := hD.bx 1 _ _ rfl
  replace hf_b1 := Nat.le_trans hW.2.2 hf_b1
  replace hW := grown_trans hW hD.gr
  clear hD
  simp only [finAct, putAll, valsFrom, Plan.value, Act.put, List.setIfInBounds_toArray, List.set_cons_zero, List.set_cons_succ]
  replace hGl := hGl0.grown hW
  generalize β 0 = b0 at *
  generalize β (0 + 1) = b1 at *
  repeat ((fail_if_success (with_reducible show Code.wp _ (Code.region _ _ _) _ _ _)); go_step)
  refine wp_plain [.val (bv (u)), .val (bv (v)), .val (.tuple #[bv (0), .bool false]), .imm (.tuple #[bv (0), .bool false]), .imm (bv (0)), .imm (.bool false), .new 23 32, .put 6 6 (fun _ => bl (0)), .imm (.bool false)] (by kernel_rfl) (fun β => ?_) (fun β w2 hD => ?_)
  · refine Obs.cons (Ob.load (b0) 0 (bl (u)) rfl rfl (by kernel_rfl) hr_b0 Tryd.underlying23 rfl (by rw [bl_length]; exact info32)) ?_
    refine Obs.cons (Ob.load (b1) 0 (bl (v)) rfl rfl (by kernel_rfl) hr_b1 Tryd.underlying23 rfl (by rw [bl_length]; exact info32)) ?_
    refine Obs.cons (Ob.call 36 #[bv (u), bv (v)] rfl (fun w => by kernel_rfl) (fun w hg => SqrtR_no (u) (v) hu hv h w (hGl.grown hg).pr)) ?_
    refine Obs.cons (Ob.imm rfl (fun w => by kernel_rfl)) ?_
    refine Obs.cons (Ob.imm rfl (fun w => by kernel_rfl)) ?_
    refine Obs.cons (Ob.imm rfl (fun w => by kernel_rfl)) ?_
    refine Obs.cons (Ob.new _ rfl rfl zero32.1 (by simp [bl_length])) ?_
    refine Obs.cons (Ob.put 23 rfl rfl rfl (by kernel_rfl) (by kernel_rfl) (by rw [bl_length]; exact info32) (bl_one _)) ?_
    refine Obs.cons (Ob.imm rfl (fun w => by kernel_rfl)) ?_
    exact Obs.nil
  replace hr_b0 := rangeAt_grown hr_b0 hD.gr
  replace hr_b1 := rangeAt_grown hr_b1 hD.gr
  obtain ⟨hf_b2, ht_b2⟩ := hD.nw 6 _ _ rfl
  have hr_b2 : w2.rangeAt (β 6) 0 (bl (0)) := hD.rg 7 6 6 (fun _ => bl (0)) rfl
  replace hf_b2 := Nat.le_trans hW.2.2 hf_b2
  replace hW := grown_trans hW hD.gr
  clear hD
  simp only [finAct, putAll, valsFrom, Plan.value, Act.put, List.setIfInBounds_toArray, List.set_cons_zero, List.set_cons_succ]
  replace hGl := hGl0.grown hW
  generalize β (0 + 1 + 1 + 1 + 1 + 1 + 1) = b2 at *
  repeat ((fail_if_success (with_reducible show Code.wp _ (Code.region _ _ _) _ _ _)); go_step)
  refine wp_plain [.val (bv (u)), .val (bv (v)), .val (.tuple #[bv (0), .bool false]), .imm (.tuple #[bv (0), .bool false]), .imm (bv (0)), .imm (.bool false), .new 23 32, .put 6 6 (fun _ => bl (0)), .imm (.bool false)] (by kernel_rfl) (fun β => ?_) (fun β w3 hD => ?_)
  · refine Obs.cons (Ob.load (b0) 0 (bl (u)) rfl rfl (by kernel_rfl) hr_b0 Tryd.underlying23 rfl (by rw [bl_length]; exact info32)) ?_
    refine Obs.cons (Ob.load (b1) 0 (bl (v)) rfl rfl (by kernel_rfl) hr_b1 Tryd.underlying23 rfl (by rw [bl_length]; exact info32)) ?_
    refine Obs.cons (Ob.call 18 #[bv (u), bv (v)] rfl (fun w => by kernel_rfl) (fun w hg => SqrtRatio_no (u) (v) hu hv h w (hGl.grown hg).g1)) ?_
    refine Obs.cons (Ob.imm rfl (fun w => by kernel_rfl)) ?_
    refine Obs.cons (Ob.imm rfl (fun w => by kernel_rfl)) ?_
    refine Obs.cons (Ob.imm rfl (fun w => by kernel_rfl)) ?_
    refine Obs.cons (Ob.new _ rfl rfl zero32.1 (by simp [bl_length])) ?_
    refine Obs.cons (Ob.put 23 rfl rfl rfl (by kernel_rfl) (by kernel_rfl) (by rw [bl_length]; exact info32) (bl_one _)) ?_
    refine Obs.cons (Ob.imm rfl (fun w => by kernel_rfl)) ?_
    exact Obs.nil
  replace hr_b0 := rangeAt_grown hr_b0 hD.gr
  replace hr_b1 := rangeAt_grown hr_b1 hD.gr
  replace hr_b2 := rangeAt_grown hr_b2 hD.gr
  replace ht_b2 := there_grown ht_b2 hD.gr
  obtain ⟨hf_b3, ht_b3⟩ := hD.nw 6 _ _ rfl
  have hr_b3 : w3.rangeAt (β 6) 0 (bl (0)) := hD.rg 7 6 6 (fun _ => bl (0)) rfl
  replace hf_b3 := Nat.le_trans hW.2.2 hf_b3
  replace hW := grown_trans hW hD.gr
  clear hD
  simp only [finAct, putAll, valsFrom, Plan.value, Act.put, List.setIfInBounds_toArray, List.set_cons_zero, List.set_cons_succ]
  replace hGl := hGl0.grown hW
  generalize β (0 + 1 + 1 + 1 + 1 + 1 + 1) = b3 at *
  repeat ((fail_if_success (with_reducible show Code.wp _ (Code.region _ _ _) _ _ _)); go_step)
  replace hr_b0 := rangeAt_grown hr_b0 (gdrew w3)
  replace hr_b1 := rangeAt_grown hr_b1 (gdrew w3)
  replace hr_b2 := rangeAt_grown hr_b2 (gdrew w3)
  replace hr_b3 := rangeAt_grown hr_b3 (gdrew w3)
  replace ht_b2 := there_grown ht_b2 (gdrew w3)
  replace ht_b3 := there_grown ht_b3 (gdrew w3)
  replace hW := grown_trans hW (gdrew w3)
  replace hGl := hGl0.grown hW
  refine wp_loose [.val (bv (0)), .val (bv (0)), .imm (.bool true), .imm (.bool true), .imm (.bool false), .imm (.bool false), .imm (.bool true), .imm (.bool true), .imm (.bool true), .val (bv (u)), .val (.int .i64 (leg (u))), .val (bv (u)), .val (.int .i64 (leg (u))), .imm (.bool true), .imm (.bool true), .imm (.bool true)] (by kernel_rfl) (by kernel_rfl) (fun β => ?_) (fun β w4 hD => ?_)
  · refine Obs.cons (Ob.load (b3) 0 (bl (0)) rfl rfl (by kernel_rfl) hr_b3 Tryd.underlying23 rfl (by rw [bl_length]; exact info32)) ?_
    refine Obs.cons (Ob.load (b2) 0 (bl (0)) rfl rfl (by kernel_rfl) hr_b2 Tryd.underlying23 rfl (by rw [bl_length]; exact info32)) ?_
    refine Obs.cons (Ob.imm rfl (fun w => exec_eql_same rfl (0) (0) (by kernel_rfl) (by kernel_rfl) (by decide) (by decide) (rfl) w)) ?_
    refine Obs.cons (Ob.imm rfl (fun w => by kernel_rfl)) ?_
    refine Obs.cons (Ob.imm (by kernel_rfl) (fun w => by kernel_rfl)) ?_
    refine Obs.cons (Ob.imm (by kernel_rfl) (fun w => by kernel_rfl)) ?_
    refine Obs.cons (Ob.imm (by kernel_rfl) (fun w => by kernel_rfl)) ?_
    refine Obs.cons (Ob.imm rfl (fun w => by kernel_rfl)) ?_
    refine Obs.cons (Ob.imm rfl (fun w => by kernel_rfl)) ?_
    refine Obs.cons (Ob.load (b0) 0 (bl (u)) (by kernel_rfl) rfl (by kernel_rfl) hr_b0 Tryd.underlying23 rfl (by rw [bl_length]; exact info32)) ?_
    refine Obs.cons (Ob.call 22 #[bv (u)] (by kernel_rfl) (fun w => by kernel_rfl) (fun w hg => Legendre_any (u) hu w (hGl.grown hg).g0.pw (hGl.grown hg).one)) ?_
    refine Obs.cons (Ob.load (b0) 0 (bl (u)) (by kernel_rfl) rfl (by kernel_rfl) hr_b0 Tryd.underlying23 rfl (by rw [bl_length]; exact info32)) ?_
    refine Obs.cons (Ob.call 37 #[bv (u)] (by kernel_rfl) (fun w => by kernel_rfl) (fun w hg => LegendreR (u) hu w (hGl.grown hg).pr)) ?_
    refine Obs.cons (Ob.imm (by kernel_rfl) (fun w => exec_eqlI rfl (leg (u)) (leg (u)) (by kernel_rfl) (by kernel_rfl) true (decide_eq_true rfl))) ?_
    refine Obs.cons (Ob.imm rfl (fun w => by kernel_rfl)) ?_
    refine Obs.cons (Ob.imm rfl (fun w => by kernel_rfl)) ?_
    exact Obs.nil
  replace hr_b0 := rangeAt_grown hr_b0 hD.gr
  replace hr_b1 := rangeAt_grown hr_b1 hD.gr
  replace hr_b2 := rangeAt_grown hr_b2 hD.gr
  replace hr_b3 := rangeAt_grown hr_b3 hD.gr
  replace ht_b2 := there_grown ht_b2 hD.gr
  replace ht_b3 := there_grown ht_b3 hD.gr
  replace hW := grown_trans hW hD.gr
  clear hD
  simp only [finAct, putAll, valsFrom, Plan.value, Act.put, List.setIfInBounds_toArray, List.set_cons_zero, List.set_cons_succ]
  replace hGl := hGl0.grown hW
  repeat go_step
  go_ret
  exact ⟨rfl, hW⟩

theorem ratios_all (u v : Nat) (hu : u < S256) (hv : v < S256) (w : World) (hGl0 : Gr w) : Calls Tryd.prog 8 #[bv u, bv v] w fun ex w' => ex = .returned (.bool true) ∧ Grown w w' := by
  by_cases h : rok u v
  · exact ratios_yes u v hu hv h w hGl0
  · exact ratios_no u v hu hv h w hGl0
end Go.Proofs.YtkegcilcapnpdaaDoor
