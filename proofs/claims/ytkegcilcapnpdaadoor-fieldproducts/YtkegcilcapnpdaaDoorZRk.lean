import Derived.Test.YtkegcilcapnpdaaDoorMv
import Derived.Test.YtkegcilcapnpdaaDoorMe
namespace Go.Proofs.YtkegcilcapnpdaaDoor
open Go.RowKit Go.Shelf FieldNum

set_option maxRecDepth 100000 in
set_option maxHeartbeats 4000000 in
theorem products_all (a b : Nat) (ha : a < S256) (hb : b < S256) (w : World) (hGl0 : Gp w) : Calls Tryd.prog 5 #[bv a, bv b] w fun e w' => e = .returned (.bool true) ∧ Grown w w' := by
  have hW := Grown.refl w
  have hGl := hGl0
  go_enter Tryd.func5, Tryd.ntmps5
  repeat ((fail_if_success (with_reducible show Code.wp _ (Code.region _ _ _) _ _ _)); go_step)
  refine wp_plain [.box 23 (bl (a)), .box 23 (bl (b)), .imm (.bool false)] (by kernel_rfl) (fun β => ?_) (fun β w1 hD => ?_)
  · refine Obs.cons (Ob.box rfl rfl (by kernel_rfl)) ?_
    refine Obs.cons (Ob.box rfl rfl (by kernel_rfl)) ?_
    refine Obs.cons (Ob.imm rfl (fun w => by kernel_rfl)) ?_
    exact Obs.nil
  obtain ⟨hf_b0, hr_b0⟩ := hD.bx 0 _ _ rfl
  replace hf_b0 := Nat.le_trans hW.2.2 hf_b0
  obtain ⟨hf_b1, hr_b1⟩ := hD.bx 1 _ _ rfl
  replace hf_b1 := Nat.le_trans hW.2.2 hf_b1
  replace hW := grown_trans hW hD.gr
  clear hD
  simp only [finAct, putAll, valsFrom, Plan.value, Act.put, List.setIfInBounds_toArray, List.set_cons_zero, List.set_cons_succ]
  replace hGl := hGl0.grown hW
  generalize β 0 = b0 at *
  generalize β (0 + 1) = b1 at *
  repeat ((fail_if_success (with_reducible show Code.wp _ (Code.region _ _ _) _ _ _)); go_step)
  replace hr_b0 := rangeAt_grown hr_b0 (gdrew w1)
  replace hr_b1 := rangeAt_grown hr_b1 (gdrew w1)
  replace hW := grown_trans hW (gdrew w1)
  replace hGl := hGl0.grown hW
  refine wp_loose [.val (bv (a)), .val (bv (b)), .val (bv (fmul (a) (b))), .val (bv (a)), .val (bv (b)), .val (bv (fmul (a) (b))), .imm (.bool false), .imm (.bool false), .val (bv (a)), .val (bv (fmul (a) (a))), .val (bv (a)), .val (bv (fmul (a) (a))), .imm (.bool false), .imm (.bool false)] (by kernel_rfl) (by kernel_rfl) (fun β => ?_) (fun β w2 hD => ?_)
  · refine Obs.cons (Ob.load (b0) 0 (bl (a)) rfl rfl (by kernel_rfl) hr_b0 Tryd.underlying23 rfl (by rw [bl_length]; exact info32)) ?_
    refine Obs.cons (Ob.load (b1) 0 (bl (b)) rfl rfl (by kernel_rfl) hr_b1 Tryd.underlying23 rfl (by rw [bl_length]; exact info32)) ?_
    refine Obs.cons (Ob.call 14 #[bv (a), bv (b)] rfl (fun w => by kernel_rfl) (fun w hg => Mul_f (a) (b) ha hb w)) ?_
    refine Obs.cons (Ob.load (b0) 0 (bl (a)) rfl rfl (by kernel_rfl) hr_b0 Tryd.underlying23 rfl (by rw [bl_length]; exact info32)) ?_
    refine Obs.cons (Ob.load (b1) 0 (bl (b)) rfl rfl (by kernel_rfl) hr_b1 Tryd.underlying23 rfl (by rw [bl_length]; exact info32)) ?_
    refine Obs.cons (Ob.call 23 #[bv (a), bv (b)] rfl (fun w => by kernel_rfl) (fun w hg => MulR (a) (b) ha hb w (hGl.grown hg))) ?_
    refine Obs.cons (Ob.imm rfl (fun w => exec_neq_same rfl (fmul (a) (b)) (fmul (a) (b)) (by kernel_rfl) (by kernel_rfl) (fmul_lt _ _) (fmul_lt _ _) (rfl) w)) ?_
    refine Obs.cons (Ob.imm rfl (fun w => by kernel_rfl)) ?_
    refine Obs.cons (Ob.load (b0) 0 (bl (a)) (by kernel_rfl) rfl (by kernel_rfl) hr_b0 Tryd.underlying23 rfl (by rw [bl_length]; exact info32)) ?_
    refine Obs.cons (Ob.call 19 #[bv (a)] (by kernel_rfl) (fun w => by kernel_rfl) (fun w hg => Square_f (a) ha w)) ?_
    refine Obs.cons (Ob.load (b0) 0 (bl (a)) (by kernel_rfl) rfl (by kernel_rfl) hr_b0 Tryd.underlying23 rfl (by rw [bl_length]; exact info32)) ?_
    refine Obs.cons (Ob.call 24 #[bv (a)] (by kernel_rfl) (fun w => by kernel_rfl) (fun w hg => SquareR (a) ha w (hGl.grown hg))) ?_
    refine Obs.cons (Ob.imm (by kernel_rfl) (fun w => exec_neq_same rfl (fmul (a) (a)) (fmul (a) (a)) (by kernel_rfl) (by kernel_rfl) (fmul_lt _ _) (fmul_lt _ _) (rfl) w)) ?_
    refine Obs.cons (Ob.imm rfl (fun w => by kernel_rfl)) ?_
    exact Obs.nil
  replace hr_b0 := rangeAt_grown hr_b0 hD.gr
  replace hr_b1 := rangeAt_grown hr_b1 hD.gr
  replace hW := grown_trans hW hD.gr
  clear hD
  simp only [finAct, putAll, valsFrom, Plan.value, Act.put, List.setIfInBounds_toArray, List.set_cons_zero, List.set_cons_succ]
  replace hGl := hGl0.grown hW
  repeat ((fail_if_success (with_reducible show Code.wp _ (Code.region _ _ _) _ _ _)); go_step)
  replace hr_b0 := rangeAt_grown hr_b0 (gdrew w2)
  replace hr_b1 := rangeAt_grown hr_b1 (gdrew w2)
  replace hW := grown_trans hW (gdrew w2)
  replace hGl := hGl0.grown hW
  refine wp_loose [.val (bv (a)), .val (bv (b)), .val (bv (fadd (a) (b))), .val (bv (a)), .val (bv (b)), .val (bv (fadd (a) (b))), .imm (.bool true), .imm (.bool true), .val (bv (a)), .val (bv (b)), .val (bv (sb (a) (b))), .val (bv (a)), .val (bv (b)), .val (bv (sb (a) (b))), .imm (.bool true), .imm (.bool true), .imm (.bool true)] (by kernel_rfl) (by kernel_rfl) (fun β => ?_) (fun β w3 hD => ?_)
  · refine Obs.cons (Ob.load (b0) 0 (bl (a)) rfl rfl (by kernel_rfl) hr_b0 Tryd.underlying23 rfl (by rw [bl_length]; exact info32)) ?_
    refine Obs.cons (Ob.load (b1) 0 (bl (b)) rfl rfl (by kernel_rfl) hr_b1 Tryd.underlying23 rfl (by rw [bl_length]; exact info32)) ?_
    refine Obs.cons (Ob.call 21 #[bv (a), bv (b)] rfl (fun w => by kernel_rfl) (fun w hg => Add_f (a) (b) ha hb w)) ?_
    refine Obs.cons (Ob.load (b0) 0 (bl (a)) rfl rfl (by kernel_rfl) hr_b0 Tryd.underlying23 rfl (by rw [bl_length]; exact info32)) ?_
    refine Obs.cons (Ob.load (b1) 0 (bl (b)) rfl rfl (by kernel_rfl) hr_b1 Tryd.underlying23 rfl (by rw [bl_length]; exact info32)) ?_
    refine Obs.cons (Ob.call 25 #[bv (a), bv (b)] rfl (fun w => by kernel_rfl) (fun w hg => AddR (a) (b) ha hb w (hGl.grown hg))) ?_
    refine Obs.cons (Ob.imm rfl (fun w => exec_eql_same rfl (fadd (a) (b)) (fadd (a) (b)) (by kernel_rfl) (by kernel_rfl) (fadd_lt _ _) (fadd_lt _ _) (rfl) w)) ?_
    refine Obs.cons (Ob.imm rfl (fun w => by kernel_rfl)) ?_
    refine Obs.cons (Ob.load (b0) 0 (bl (a)) (by kernel_rfl) rfl (by kernel_rfl) hr_b0 Tryd.underlying23 rfl (by rw [bl_length]; exact info32)) ?_
    refine Obs.cons (Ob.load (b1) 0 (bl (b)) (by kernel_rfl) rfl (by kernel_rfl) hr_b1 Tryd.underlying23 rfl (by rw [bl_length]; exact info32)) ?_
    refine Obs.cons (Ob.call 26 #[bv (a), bv (b)] (by kernel_rfl) (fun w => by kernel_rfl) (fun w hg => Sub_any (a) (b) ha hb w)) ?_
    refine Obs.cons (Ob.load (b0) 0 (bl (a)) (by kernel_rfl) rfl (by kernel_rfl) hr_b0 Tryd.underlying23 rfl (by rw [bl_length]; exact info32)) ?_
    refine Obs.cons (Ob.load (b1) 0 (bl (b)) (by kernel_rfl) rfl (by kernel_rfl) hr_b1 Tryd.underlying23 rfl (by rw [bl_length]; exact info32)) ?_
    refine Obs.cons (Ob.call 27 #[bv (a), bv (b)] (by kernel_rfl) (fun w => by kernel_rfl) (fun w hg => SubR (a) (b) ha hb w (hGl.grown hg))) ?_
    refine Obs.cons (Ob.imm (by kernel_rfl) (fun w => exec_eql_same rfl (sb (a) (b)) (sb (a) (b)) (by kernel_rfl) (by kernel_rfl) (fsb_lt _ _) (fsb_lt _ _) (rfl) w)) ?_
    refine Obs.cons (Ob.imm rfl (fun w => by kernel_rfl)) ?_
    refine Obs.cons (Ob.imm rfl (fun w => by kernel_rfl)) ?_
    exact Obs.nil
  replace hr_b0 := rangeAt_grown hr_b0 hD.gr
  replace hr_b1 := rangeAt_grown hr_b1 hD.gr
  replace hW := grown_trans hW hD.gr
  clear hD
  simp only [finAct, putAll, valsFrom, Plan.value, Act.put, List.setIfInBounds_toArray, List.set_cons_zero, List.set_cons_succ]
  replace hGl := hGl0.grown hW
  repeat go_step
  go_ret
  exact ⟨rfl, hW⟩

end Go.Proofs.YtkegcilcapnpdaaDoor
