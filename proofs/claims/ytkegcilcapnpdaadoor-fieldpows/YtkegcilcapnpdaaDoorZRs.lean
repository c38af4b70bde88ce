import Derived.Test.YtkegcilcapnpdaaDoorMz
import Derived.Test.YtkegcilcapnpdaaDoorMy
import Derived.Test.YtkegcilcapnpdaaDoorMe
import Derived.Test.YtkegcilcapnpdaaDoorZLaid5
namespace Go.Proofs.YtkegcilcapnpdaaDoor
open Go.RowKit Go.Shelf FieldNum

theorem Gq.g0 {w : World} (h : Gq w) : G0 w := ⟨h.pw⟩
theorem PowR (a e : Nat) (ha : a < S256) (he : e < S256) (w : World) (hGl0 : Gp w) : Calls Tryd.prog 29 #[bv a, bv e] w fun ex w' => ex = .returned (bv (fpow a e)) ∧ Grown w w' := by
  have := PowR_raw a e ha he w hGl0
  rw [pow_mod_p] at this
  exact this
set_option maxRecDepth 100000 in
set_option maxHeartbeats 4000000 in
theorem pows_all (a e : Nat) (ha : a < S256) (he : e < S256) (w : World) (hGl0 : Gq w) : Calls Tryd.prog 6 #[bv a, bv e] w fun ex w' => ex = .returned (.bool true) ∧ Grown w w' := by
  have hW := Grown.refl w
  have hGl := hGl0
  go_enter Tryd.func6, Tryd.ntmps6
  repeat ((fail_if_success (with_reducible show Code.wp _ (Code.region _ _ _) _ _ _)); go_step)
  refine wp_plain [.box 23 (bl (a)), .box 23 (bl (e)), .imm (.bool false)] (by kernel_rfl) (fun β => ?_) (fun β w1 hD => ?_)
  · refine Obs.cons (Ob.box rfl rfl (by kernel_rfl)) ?_
    refine Obs.cons (Ob.box rfl rfl (by kernel_rfl)) ?_
    refine Obs.cons (Ob.imm rfl (fun w => by kernel_rfl)) ?_
    exact Obs.nil
  obtain ⟨hf_b0, hr_b0⟩ := hD.bx 0 _ _ rfl
  replace hf_b0 := Nat.le_trans hW.2.2 hf_b0
  obtain ⟨hf_b1, hr_b1⟩ := hD.bx 1 _ _ rfl
  replace hf_b1 := Nat.le_trans hW.2.2 hf_b1
  replace hW := grown_trans hW hD.gr
  clear hD
  simp only [finAct, putAll, valsFrom, Plan.value, Act.put, List.setIfInBounds_toArray, List.set_cons_zero, List.set_cons_succ]
  replace hGl := hGl0.grown hW
  generalize β 0 = b0 at *
  generalize β (0 + 1) = b1 at *
  repeat ((fail_if_success (with_reducible show Code.wp _ (Code.region _ _ _) _ _ _)); go_step)
  replace hr_b0 := rangeAt_grown hr_b0 (gdrew w1)
  replace hr_b1 := rangeAt_grown hr_b1 (gdrew w1)
  replace hW := grown_trans hW (gdrew w1)
  replace hGl := hGl0.grown hW
  refine wp_loose [.val (bv (a)), .val (bv (e)), .val (bv (fpow (a) (e))), .val (bv (a)), .val (bv (e)), .val (bv (fpow (a) (e))), .imm (.bool true), .imm (.bool true), .val (bv (a)), .val (bv (inv (a))), .val (bv (a)), .val (bv (inv (a))), .imm (.bool true), .imm (.bool true), .imm (.bool true)] (by kernel_rfl) (by kernel_rfl) (fun β => ?_) (fun β w2 hD => ?_)
  · refine Obs.cons (Ob.load (b0) 0 (bl (a)) rfl rfl (by kernel_rfl) hr_b0 Tryd.underlying23 rfl (by rw [bl_length]; exact info32)) ?_
    refine Obs.cons (Ob.load (b1) 0 (bl (e)) rfl rfl (by kernel_rfl) hr_b1 Tryd.underlying23 rfl (by rw [bl_length]; exact info32)) ?_
    refine Obs.cons (Ob.call 28 #[bv (a), bv (e)] rfl (fun w => by kernel_rfl) (fun w hg => Pow_f (a) (e) ha he w (hGl.grown hg).one)) ?_
    refine Obs.cons (Ob.load (b0) 0 (bl (a)) rfl rfl (by kernel_rfl) hr_b0 Tryd.underlying23 rfl (by rw [bl_length]; exact info32)) ?_
    refine Obs.cons (Ob.load (b1) 0 (bl (e)) rfl rfl (by kernel_rfl) hr_b1 Tryd.underlying23 rfl (by rw [bl_length]; exact info32)) ?_
    refine Obs.cons (Ob.call 29 #[bv (a), bv (e)] rfl (fun w => by kernel_rfl) (fun w hg => PowR (a) (e) ha he w (hGl.grown hg).pr)) ?_
    refine Obs.cons (Ob.imm rfl (fun w => exec_eql_same rfl (fpow (a) (e)) (fpow (a) (e)) (by kernel_rfl) (by kernel_rfl) (fpow_lt _ _) (fpow_lt _ _) (rfl) w)) ?_
    refine Obs.cons (Ob.imm rfl (fun w => by kernel_rfl)) ?_
    refine Obs.cons (Ob.load (b0) 0 (bl (a)) (by kernel_rfl) rfl (by kernel_rfl) hr_b0 Tryd.underlying23 rfl (by rw [bl_length]; exact info32)) ?_
    refine Obs.cons (Ob.call 13 #[bv (a)] (by kernel_rfl) (fun w => by kernel_rfl) (fun w hg => Invert_any (a) ha w (hGl.grown hg).g0.pw)) ?_
    refine Obs.cons (Ob.load (b0) 0 (bl (a)) (by kernel_rfl) rfl (by kernel_rfl) hr_b0 Tryd.underlying23 rfl (by rw [bl_length]; exact info32)) ?_
    refine Obs.cons (Ob.call 30 #[bv (a)] (by kernel_rfl) (fun w => by kernel_rfl) (fun w hg => InvertR (a) ha w (hGl.grown hg).pr)) ?_
    refine Obs.cons (Ob.imm (by kernel_rfl) (fun w => exec_eql_same rfl (inv (a)) (inv (a)) (by kernel_rfl) (by kernel_rfl) (finv_lt _) (finv_lt _) (rfl) w)) ?_
    refine Obs.cons (Ob.imm rfl (fun w => by kernel_rfl)) ?_
    refine Obs.cons (Ob.imm rfl (fun w => by kernel_rfl)) ?_
    exact Obs.nil
  replace hr_b0 := rangeAt_grown hr_b0 hD.gr
  replace hr_b1 := rangeAt_grown hr_b1 hD.gr
  replace hW := grown_trans hW hD.gr
  clear hD
  simp only [finAct, putAll, valsFrom, Plan.value, Act.put, List.setIfInBounds_toArray, List.set_cons_zero, List.set_cons_succ]
  replace hGl := hGl0.grown hW
  repeat go_step
  go_ret
  exact ⟨rfl, hW⟩

end Go.Proofs.YtkegcilcapnpdaaDoor
