import Derived.Test.YtoimglbjepppmaaDoorZFb0
import Derived.Test.YtoimglbjepppmaaDoorMk
namespace Go.Proofs.YtoimglbjepppmaaDoor
open Go.RowKit Go.Shelf FieldNum

theorem mod_M (x : Nat) : x % p < M := Nat.lt_trans (Nat.mod_lt _ p_pos) (by decide)
theorem exec_zeroN {o : Oper} {ρ : Operand → Value} {x y : Operand} {t : TypeId} (ho : o.op = .binOp .eql 68 x y t) (m n : Nat) (hx : ρ x = numV m) (hy : ρ y = numV n) (hm : m < M) (hn : n < M) (bb : Bool) (hb : decide (m = n) = bb) (w : World) : (execOp ρ o).run Tryd.prog w = .ok (.value (.bool bb)) w := by
  have := exec_eqlN ho m n hx hy hm hn w
  rwa [hb] at this

set_option maxRecDepth 100000 in
set_option maxHeartbeats 2000000 in
theorem zero_num (x : Nat) (hx : x < M) (bb : Bool) (h : decide (x % p = 0) = bb) (w : World) : Calls Tryd.prog 48 #[numV x] w fun e w' => e = .returned (.bool bb) ∧ Grown w w' := by
  have hW := Grown.refl w
  go_enter Tryd.func48, Tryd.ntmps48
  repeat ((fail_if_success (with_reducible show Code.wp _ (Code.region _ _ _) _ _ _)); go_step)
  refine wp_plain [.box 68 (nl (x)), .imm (.bool false)] (by kernel_rfl) (fun β => ?_) (fun β w1 hD => ?_)
  · refine Obs.cons (Ob.box rfl rfl (by kernel_rfl)) ?_
    refine Obs.cons (Ob.imm rfl (fun w => by kernel_rfl)) ?_
    exact Obs.nil
  obtain ⟨hf_b0, hr_b0⟩ := hD.bx 0 _ _ rfl
  replace hf_b0 := Nat.le_trans hW.2.2 hf_b0
  replace hW := grown_trans hW hD.gr
  clear hD
  simp only [finAct, putAll, valsFrom, Plan.value, Act.put, List.setIfInBounds_toArray, List.set_cons_zero, List.set_cons_succ]
  generalize β 0 = b0 at *
  repeat ((fail_if_success (with_reducible show Code.wp _ (Code.region _ _ _) _ _ _)); go_step)
  refine wp_plain [.val (numV (x)), .val (numV ((x) % p)), .imm (numV (0)), .imm (.bool bb), .imm (.bool bb)] (by kernel_rfl) (fun β => ?_) (fun β w2 hD => ?_)
  · refine Obs.cons (Ob.load (b0) 0 (nl (x)) rfl rfl (by kernel_rfl) hr_b0 Tryd.underlying68 rfl (by rw [nl_length]; exact infoN)) ?_
    refine Obs.cons (Ob.call 56 #[numV (x)] rfl (fun w => by kernel_rfl) (fun w hg => canonical_num (x) hx w)) ?_
    refine Obs.cons (Ob.imm rfl (fun w => exec_build rfl (by kernel_rfl) (build_n0 w))) ?_
    refine Obs.cons (Ob.imm rfl (fun w => exec_zeroN rfl ((x) % p) (0) (by kernel_rfl) (by kernel_rfl) (mod_M _) (by decide) bb (h) w)) ?_
    refine Obs.cons (Ob.imm rfl (fun w => by kernel_rfl)) ?_
    exact Obs.nil
  replace hr_b0 := rangeAt_grown hr_b0 hD.gr
  replace hW := grown_trans hW hD.gr
  clear hD
  simp only [finAct, putAll, valsFrom, Plan.value, Act.put, List.setIfInBounds_toArray, List.set_cons_zero, List.set_cons_succ]
  repeat go_step
  go_ret
  exact ⟨rfl, hW⟩

end Go.Proofs.YtoimglbjepppmaaDoor
