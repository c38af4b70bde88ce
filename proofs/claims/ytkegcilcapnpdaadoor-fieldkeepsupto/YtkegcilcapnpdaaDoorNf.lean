import Derived.Test.YtkegcilcapnpdaaDoorNe
import Derived.Test.YtkegcilcapnpdaaDoorNb
import Derived.Test.YtkegcilcapnpdaaDoorNc
import Derived.Test.YtkegcilcapnpdaaDoorMy
import Derived.Test.YtkegcilcapnpdaaDoorMg
namespace Go.Proofs.YtkegcilcapnpdaaDoor
open Go.RowKit Go.Shelf FieldNum

theorem exec_eqlB {o : Oper} {ρ : Operand → Value} {x y : Operand} {t : TypeId} {w : World} (ho : o.op = .binOp .eql 4 x y t) (c : Bool) (hx : ρ x = .bool c) (hy : ρ y = .bool c) : (execOp ρ o).run Tryd.prog w = .ok (.value (.bool true)) w := by
  unfold execOp
  simp only [ho, hx, hy]
  cases c <;> simp [go_sem]
set_option maxRecDepth 100000 in
set_option maxHeartbeats 4000000 in
theorem CanonicalR (a : Nat) (ha : a < S256) (w : World) (hGl0 : Gp w) : Calls Tryd.prog 97 #[bv (a)] w fun e w' => e = .returned (.bool (decide (a < p))) ∧ Grown w w' := by
  have hW := Grown.refl w
  have hGl := hGl0
  go_enter Tryd.func97, Tryd.ntmps97
  repeat ((fail_if_success (with_reducible show Code.wp _ (Code.region _ _ _) _ _ _)); go_step)
  refine wp_plain [.box 23 (bl (a)), .imm (.bool false)] (by kernel_rfl) (fun β => ?_) (fun β w1 hD => ?_)
  · refine Obs.cons (Ob.box rfl rfl (by kernel_rfl)) ?_
    refine Obs.cons (Ob.imm rfl (fun w => by kernel_rfl)) ?_
    exact Obs.nil
  obtain ⟨hf_b0, hr_b0⟩ := hD.bx 0 _ _ rfl
  replace hf_b0 := Nat.le_trans hW.2.2 hf_b0
  replace hW := grown_trans hW hD.gr
  clear hD
  simp only [finAct, putAll, valsFrom, Plan.value, Act.put, List.setIfInBounds_toArray, List.set_cons_zero, List.set_cons_succ]
  replace hGl := hGl0.grown hW
  generalize β 0 = b0 at *
  repeat ((fail_if_success (with_reducible show Code.wp _ (Code.region _ _ _) _ _ _)); go_step)
  refine wp_plain [.val (bv (a)), .val (sn (a)), .new 45 16, .put 2 2 (fun _ => il 16 (d16 (a)))] (by kernel_rfl) (fun β => ?_) (fun β w2 hD => ?_)
  · refine Obs.cons (Ob.load (b0) 0 (bl (a)) rfl rfl (by kernel_rfl) hr_b0 Tryd.underlying23 rfl (by rw [bl_length]; exact info32)) ?_
    refine Obs.cons (Ob.call 86 #[bv (a)] rfl (fun w => by kernel_rfl) (fun w hg => Raw_r (a) w)) ?_
    refine Obs.cons (Ob.new _ rfl rfl zeroS (by simp [il_length])) ?_
    refine Obs.cons (Ob.put 45 rfl rfl rfl (by kernel_rfl) (by kernel_rfl) (by rw [il_length]; exact infoS) (il_one _ _)) ?_
    exact Obs.nil
  replace hr_b0 := rangeAt_grown hr_b0 hD.gr
  obtain ⟨hf_b1, ht_b1⟩ := hD.nw 2 _ _ rfl
  have hr_b1 : w2.rangeAt (β 2) 0 (il 16 (d16 (a))) := hD.rg 3 2 2 (fun _ => il 16 (d16 (a))) rfl
  replace hf_b1 := Nat.le_trans hW.2.2 hf_b1
  replace hW := grown_trans hW hD.gr
  clear hD
  simp only [finAct, putAll, valsFrom, Plan.value, Act.put, List.setIfInBounds_toArray, List.set_cons_zero, List.set_cons_succ]
  replace hGl := hGl0.grown hW
  generalize β (0 + 1 + 1) = b1 at *
  repeat ((fail_if_success (with_reducible show Code.wp _ (Code.region _ _ _) _ _ _)); go_step)
  refine wp_plain [.val (sn (p)), .new 45 16, .put 1 1 (fun _ => il 16 (d16 (p)))] (by kernel_rfl) (fun β => ?_) (fun β w3 hD => ?_)
  · refine Obs.cons (Ob.call 40 #[] rfl (fun w => by kernel_rfl) (fun w hg => P_r p w (hGl.grown hg))) ?_
    refine Obs.cons (Ob.new _ rfl rfl zeroS (by simp [il_length])) ?_
    refine Obs.cons (Ob.put 45 rfl rfl rfl (by kernel_rfl) (by kernel_rfl) (by rw [il_length]; exact infoS) (il_one _ _)) ?_
    exact Obs.nil
  replace hr_b0 := rangeAt_grown hr_b0 hD.gr
  replace hr_b1 := rangeAt_grown hr_b1 hD.gr
  replace ht_b1 := there_grown ht_b1 hD.gr
  obtain ⟨hf_b2, ht_b2⟩ := hD.nw 1 _ _ rfl
  have hr_b2 : w3.rangeAt (β 1) 0 (il 16 (d16 (p))) := hD.rg 2 1 1 (fun _ => il 16 (d16 (p))) rfl
  replace hf_b2 := Nat.le_trans hW.2.2 hf_b2
  replace hW := grown_trans hW hD.gr
  clear hD
  simp only [finAct, putAll, valsFrom, Plan.value, Act.put, List.setIfInBounds_toArray, List.set_cons_zero, List.set_cons_succ]
  replace hGl := hGl0.grown hW
  generalize β (0 + 1) = b2 at *
  repeat ((fail_if_success (with_reducible show Code.wp _ (Code.region _ _ _) _ _ _)); go_step)
  refine wp_plain [.val (sn (a)), .val (sn (p)), .val (.bool ((decide (a < p)))), .imm (.bool ((decide (a < p))))] (by kernel_rfl) (fun β => ?_) (fun β w4 hD => ?_)
  · refine Obs.cons (Ob.load (b1) 0 (il 16 (d16 (a))) rfl rfl (by kernel_rfl) hr_b1 Tryd.underlying45 rfl (by rw [il_length]; exact infoS)) ?_
    refine Obs.cons (Ob.load (b2) 0 (il 16 (d16 (p))) rfl rfl (by kernel_rfl) hr_b2 Tryd.underlying45 rfl (by rw [il_length]; exact infoS)) ?_
    refine Obs.cons (Ob.call 95 #[sn (a), sn (p)] rfl (fun w => by kernel_rfl) (fun w hg => Below_b (a) (p) ha p_S (decide (a < p)) (rfl) w)) ?_
    refine Obs.cons (Ob.imm rfl (fun w => by kernel_rfl)) ?_
    exact Obs.nil
  replace hr_b0 := rangeAt_grown hr_b0 hD.gr
  replace hr_b1 := rangeAt_grown hr_b1 hD.gr
  replace hr_b2 := rangeAt_grown hr_b2 hD.gr
  replace ht_b1 := there_grown ht_b1 hD.gr
  replace ht_b2 := there_grown ht_b2 hD.gr
  replace hW := grown_trans hW hD.gr
  clear hD
  simp only [finAct, putAll, valsFrom, Plan.value, Act.put, List.setIfInBounds_toArray, List.set_cons_zero, List.set_cons_succ]
  replace hGl := hGl0.grown hW
  repeat go_step
  go_ret
  exact ⟨rfl, hW⟩

set_option maxRecDepth 100000 in
set_option maxHeartbeats 4000000 in
theorem EqualR (a b : Nat) (ha : a < S256) (hb : b < S256) (w : World) (hGl0 : Gp w) : Calls Tryd.prog 100 #[bv (a), bv (b)] w fun e w' => e = .returned (.bool (decide (a % p = b % p))) ∧ Grown w w' := by
  have hW := Grown.refl w
  have hGl := hGl0
  go_enter Tryd.func100, Tryd.ntmps100
  repeat ((fail_if_success (with_reducible show Code.wp _ (Code.region _ _ _) _ _ _)); go_step)
  refine wp_plain [.box 23 (bl (a)), .box 23 (bl (b)), .imm (.bool false)] (by kernel_rfl) (fun β => ?_) (fun β w1 hD => ?_)
  · refine Obs.cons (Ob.box rfl rfl (by kernel_rfl)) ?_
    refine Obs.cons (Ob.box rfl rfl (by kernel_rfl)) ?_
    refine Obs.cons (Ob.imm rfl (fun w => by kernel_rfl)) ?_
    exact Obs.nil
  obtain ⟨hf_b0, hr_b0⟩ := hD.bx 0 _ _ rfl
  replace hf_b0 := Nat.le_trans hW.2.2 hf_b0
  obtain ⟨hf_b1, hr_b1⟩ := hD.bx 1 _ _ rfl
  replace hf_b1 := Nat.le_trans hW.2.2 hf_b1
  replace hW := grown_trans hW hD.gr
  clear hD
  simp only [finAct, putAll, valsFrom, Plan.value, Act.put, List.setIfInBounds_toArray, List.set_cons_zero, List.set_cons_succ]
  replace hGl := hGl0.grown hW
  generalize β 0 = b0 at *
  generalize β (0 + 1) = b1 at *
  repeat ((fail_if_success (with_reducible show Code.wp _ (Code.region _ _ _) _ _ _)); go_step)
  refine wp_plain [.val (bv (a)), .val (sn ((a) % p)), .new 45 16, .put 2 2 (fun _ => il 16 (d16 ((a) % p)))] (by kernel_rfl) (fun β => ?_) (fun β w2 hD => ?_)
  · refine Obs.cons (Ob.load (b0) 0 (bl (a)) rfl rfl (by kernel_rfl) hr_b0 Tryd.underlying23 rfl (by rw [bl_length]; exact info32)) ?_
    refine Obs.cons (Ob.call 62 #[bv (a)] rfl (fun w => by kernel_rfl) (fun w hg => From_r (a) ha w (hGl.grown hg))) ?_
    refine Obs.cons (Ob.new _ rfl rfl zeroS (by simp [il_length])) ?_
    refine Obs.cons (Ob.put 45 rfl rfl rfl (by kernel_rfl) (by kernel_rfl) (by rw [il_length]; exact infoS) (il_one _ _)) ?_
    exact Obs.nil
  replace hr_b0 := rangeAt_grown hr_b0 hD.gr
  replace hr_b1 := rangeAt_grown hr_b1 hD.gr
  obtain ⟨hf_b2, ht_b2⟩ := hD.nw 2 _ _ rfl
  have hr_b2 : w2.rangeAt (β 2) 0 (il 16 (d16 ((a) % p))) := hD.rg 3 2 2 (fun _ => il 16 (d16 ((a) % p))) rfl
  replace hf_b2 := Nat.le_trans hW.2.2 hf_b2
  replace hW := grown_trans hW hD.gr
  clear hD
  simp only [finAct, putAll, valsFrom, Plan.value, Act.put, List.setIfInBounds_toArray, List.set_cons_zero, List.set_cons_succ]
  replace hGl := hGl0.grown hW
  generalize β (0 + 1 + 1) = b2 at *
  repeat ((fail_if_success (with_reducible show Code.wp _ (Code.region _ _ _) _ _ _)); go_step)
  refine wp_plain [.val (bv (b)), .val (sn ((b) % p)), .new 45 16, .put 2 2 (fun _ => il 16 (d16 ((b) % p)))] (by kernel_rfl) (fun β => ?_) (fun β w3 hD => ?_)
  · refine Obs.cons (Ob.load (b1) 0 (bl (b)) rfl rfl (by kernel_rfl) hr_b1 Tryd.underlying23 rfl (by rw [bl_length]; exact info32)) ?_
    refine Obs.cons (Ob.call 62 #[bv (b)] rfl (fun w => by kernel_rfl) (fun w hg => From_r (b) hb w (hGl.grown hg))) ?_
    refine Obs.cons (Ob.new _ rfl rfl zeroS (by simp [il_length])) ?_
    refine Obs.cons (Ob.put 45 rfl rfl rfl (by kernel_rfl) (by kernel_rfl) (by rw [il_length]; exact infoS) (il_one _ _)) ?_
    exact Obs.nil
  replace hr_b0 := rangeAt_grown hr_b0 hD.gr
  replace hr_b1 := rangeAt_grown hr_b1 hD.gr
  replace hr_b2 := rangeAt_grown hr_b2 hD.gr
  replace ht_b2 := there_grown ht_b2 hD.gr
  obtain ⟨hf_b3, ht_b3⟩ := hD.nw 2 _ _ rfl
  have hr_b3 : w3.rangeAt (β 2) 0 (il 16 (d16 ((b) % p))) := hD.rg 3 2 2 (fun _ => il 16 (d16 ((b) % p))) rfl
  replace hf_b3 := Nat.le_trans hW.2.2 hf_b3
  replace hW := grown_trans hW hD.gr
  clear hD
  simp only [finAct, putAll, valsFrom, Plan.value, Act.put, List.setIfInBounds_toArray, List.set_cons_zero, List.set_cons_succ]
  replace hGl := hGl0.grown hW
  generalize β (0 + 1 + 1) = b3 at *
  repeat ((fail_if_success (with_reducible show Code.wp _ (Code.region _ _ _) _ _ _)); go_step)
  refine wp_plain [.val (sn ((a) % p)), .val (sn ((b) % p)), .val (.bool ((decide (a % p = b % p)))), .imm (.bool ((decide (a % p = b % p))))] (by kernel_rfl) (fun β => ?_) (fun β w4 hD => ?_)
  · refine Obs.cons (Ob.load (b2) 0 (il 16 (d16 ((a) % p))) rfl rfl (by kernel_rfl) hr_b2 Tryd.underlying45 rfl (by rw [il_length]; exact infoS)) ?_
    refine Obs.cons (Ob.load (b3) 0 (il 16 (d16 ((b) % p))) rfl rfl (by kernel_rfl) hr_b3 Tryd.underlying45 rfl (by rw [il_length]; exact infoS)) ?_
    refine Obs.cons (Ob.call 92 #[sn ((a) % p), sn ((b) % p)] rfl (fun w => by kernel_rfl) (fun w hg => Same_b ((a) % p) ((b) % p) (mod_S _) (mod_S _) (decide (a % p = b % p)) (rfl) w)) ?_
    refine Obs.cons (Ob.imm rfl (fun w => by kernel_rfl)) ?_
    exact Obs.nil
  replace hr_b0 := rangeAt_grown hr_b0 hD.gr
  replace hr_b1 := rangeAt_grown hr_b1 hD.gr
  replace hr_b2 := rangeAt_grown hr_b2 hD.gr
  replace hr_b3 := rangeAt_grown hr_b3 hD.gr
  replace ht_b2 := there_grown ht_b2 hD.gr
  replace ht_b3 := there_grown ht_b3 hD.gr
  replace hW := grown_trans hW hD.gr
  clear hD
  simp only [finAct, putAll, valsFrom, Plan.value, Act.put, List.setIfInBounds_toArray, List.set_cons_zero, List.set_cons_succ]
  replace hGl := hGl0.grown hW
  repeat go_step
  go_ret
  exact ⟨rfl, hW⟩

theorem par_dec (m : Nat) : decide (d16 m 0 % 2 = 1) = decide (m % 2 = 1) := decide_eq_decide.2 (by rw [d16_odd]; omega)
set_option maxRecDepth 100000 in
set_option maxHeartbeats 4000000 in
theorem OddR (a : Nat) (ha : a < S256) (w : World) (hGl0 : Gp w) : Calls Tryd.prog 101 #[bv (a)] w fun e w' => e = .returned (.bool (decide (a % p % 2 = 1))) ∧ Grown w w' := by
  have hW := Grown.refl w
  have hGl := hGl0
  go_enter Tryd.func101, Tryd.ntmps101
  repeat ((fail_if_success (with_reducible show Code.wp _ (Code.region _ _ _) _ _ _)); go_step)
  refine wp_plain [.box 23 (bl (a)), .imm (.bool false)] (by kernel_rfl) (fun β => ?_) (fun β w1 hD => ?_)
  · refine Obs.cons (Ob.box rfl rfl (by kernel_rfl)) ?_
    refine Obs.cons (Ob.imm rfl (fun w => by kernel_rfl)) ?_
    exact Obs.nil
  obtain ⟨hf_b0, hr_b0⟩ := hD.bx 0 _ _ rfl
  replace hf_b0 := Nat.le_trans hW.2.2 hf_b0
  replace hW := grown_trans hW hD.gr
  clear hD
  simp only [finAct, putAll, valsFrom, Plan.value, Act.put, List.setIfInBounds_toArray, List.set_cons_zero, List.set_cons_succ]
  replace hGl := hGl0.grown hW
  generalize β 0 = b0 at *
  repeat ((fail_if_success (with_reducible show Code.wp _ (Code.region _ _ _) _ _ _)); go_step)
  refine wp_plain [.val (bv (a)), .val (sn ((a) % p)), .new 45 16, .put 2 2 (fun _ => il 16 (d16 ((a) % p)))] (by kernel_rfl) (fun β => ?_) (fun β w2 hD => ?_)
  · refine Obs.cons (Ob.load (b0) 0 (bl (a)) rfl rfl (by kernel_rfl) hr_b0 Tryd.underlying23 rfl (by rw [bl_length]; exact info32)) ?_
    refine Obs.cons (Ob.call 62 #[bv (a)] rfl (fun w => by kernel_rfl) (fun w hg => From_r (a) ha w (hGl.grown hg))) ?_
    refine Obs.cons (Ob.new _ rfl rfl zeroS (by simp [il_length])) ?_
    refine Obs.cons (Ob.put 45 rfl rfl rfl (by kernel_rfl) (by kernel_rfl) (by rw [il_length]; exact infoS) (il_one _ _)) ?_
    exact Obs.nil
  replace hr_b0 := rangeAt_grown hr_b0 hD.gr
  obtain ⟨hf_b1, ht_b1⟩ := hD.nw 2 _ _ rfl
  have hr_b1 : w2.rangeAt (β 2) 0 (il 16 (d16 ((a) % p))) := hD.rg 3 2 2 (fun _ => il 16 (d16 ((a) % p))) rfl
  replace hf_b1 := Nat.le_trans hW.2.2 hf_b1
  replace hW := grown_trans hW hD.gr
  clear hD
  simp only [finAct, putAll, valsFrom, Plan.value, Act.put, List.setIfInBounds_toArray, List.set_cons_zero, List.set_cons_succ]
  replace hGl := hGl0.grown hW
  generalize β (0 + 1 + 1) = b1 at *
  repeat ((fail_if_success (with_reducible show Code.wp _ (Code.region _ _ _) _ _ _)); go_step)
  refine wp_plain [.imm (.pointer (some ⟨b1, 0, none⟩)), .val (.int .i64 (d16 ((a) % p) 0)), .imm (.int .i64 (d16 ((a) % p) 0 % 2)), .imm (.bool ((decide (a % p % 2 = 1)))), .imm (.bool ((decide (a % p % 2 = 1))))] (by kernel_rfl) (fun β => ?_) (fun β w3 hD => ?_)
  · refine Obs.cons (Ob.imm rfl (fun w => exec_idxS 0 (by decide) rfl (by kernel_rfl) (by kernel_rfl))) ?_
    refine Obs.cons (Ob.load1 (b1) 0 rfl rfl (by kernel_rfl) (block_lt_of_cell (cell_i hr_b1 (j := 0) (by decide))) (cell_i hr_b1 (by decide)) (fun w h => run_loadI w h)) ?_
    refine Obs.cons (Ob.imm rfl (fun w => exec_remZ (d16 ((a) % p) 0) 2 _ (by decide) (d16_in _ 16 0 (by decide)).1 rfl (by kernel_rfl) (by kernel_rfl) rfl)) ?_
    refine Obs.cons (Ob.imm rfl (fun w => exec_eqlI rfl (d16 ((a) % p) 0 % 2) (1) (by kernel_rfl) (by kernel_rfl) (decide (a % p % 2 = 1)) (par_dec _))) ?_
    refine Obs.cons (Ob.imm rfl (fun w => by kernel_rfl)) ?_
    exact Obs.nil
  replace hr_b0 := rangeAt_grown hr_b0 hD.gr
  replace hr_b1 := rangeAt_grown hr_b1 hD.gr
  replace ht_b1 := there_grown ht_b1 hD.gr
  replace hW := grown_trans hW hD.gr
  clear hD
  simp only [finAct, putAll, valsFrom, Plan.value, Act.put, List.setIfInBounds_toArray, List.set_cons_zero, List.set_cons_succ]
  replace hGl := hGl0.grown hW
  repeat go_step
  go_ret
  exact ⟨rfl, hW⟩

set_option maxRecDepth 100000 in
set_option maxHeartbeats 4000000 in
theorem ReduceR (a : Nat) (ha : a < S256) (w : World) (hGl0 : Gp w) : Calls Tryd.prog 98 #[bv (a)] w fun e w' => e = .returned (bv (a % p)) ∧ Grown w w' := by
  have hW := Grown.refl w
  have hGl := hGl0
  go_enter Tryd.func98, Tryd.ntmps98
  repeat ((fail_if_success (with_reducible show Code.wp _ (Code.region _ _ _) _ _ _)); go_step)
  refine wp_plain [.box 23 (bl (a)), .new 23 32] (by kernel_rfl) (fun β => ?_) (fun β w1 hD => ?_)
  · refine Obs.cons (Ob.box rfl rfl (by kernel_rfl)) ?_
    refine Obs.cons (Ob.new _ rfl rfl zero32.1 (by simp [bl_length])) ?_
    exact Obs.nil
  obtain ⟨hf_b0, hr_b0⟩ := hD.bx 0 _ _ rfl
  replace hf_b0 := Nat.le_trans hW.2.2 hf_b0
  obtain ⟨hf_b1, ht_b1⟩ := hD.nw 1 _ _ rfl
  replace hf_b1 := Nat.le_trans hW.2.2 hf_b1
  replace hW := grown_trans hW hD.gr
  clear hD
  simp only [finAct, putAll, valsFrom, Plan.value, Act.put, List.setIfInBounds_toArray, List.set_cons_zero, List.set_cons_succ]
  replace hGl := hGl0.grown hW
  generalize β 0 = b0 at *
  generalize β (0 + 1) = b1 at *
  repeat ((fail_if_success (with_reducible show Code.wp _ (Code.region _ _ _) _ _ _)); go_step)
  refine wp_plain [.val (bv (a)), .val (sn ((a) % p)), .new 45 16, .put 2 2 (fun _ => il 16 (d16 ((a) % p)))] (by kernel_rfl) (fun β => ?_) (fun β w2 hD => ?_)
  · refine Obs.cons (Ob.load (b0) 0 (bl (a)) rfl rfl (by kernel_rfl) hr_b0 Tryd.underlying23 rfl (by rw [bl_length]; exact info32)) ?_
    refine Obs.cons (Ob.call 62 #[bv (a)] rfl (fun w => by kernel_rfl) (fun w hg => From_r (a) ha w (hGl.grown hg))) ?_
    refine Obs.cons (Ob.new _ rfl rfl zeroS (by simp [il_length])) ?_
    refine Obs.cons (Ob.put 45 rfl rfl rfl (by kernel_rfl) (by kernel_rfl) (by rw [il_length]; exact infoS) (il_one _ _)) ?_
    exact Obs.nil
  replace hr_b0 := rangeAt_grown hr_b0 hD.gr
  replace ht_b1 := there_grown ht_b1 hD.gr
  obtain ⟨hf_b2, ht_b2⟩ := hD.nw 2 _ _ rfl
  have hr_b2 : w2.rangeAt (β 2) 0 (il 16 (d16 ((a) % p))) := hD.rg 3 2 2 (fun _ => il 16 (d16 ((a) % p))) rfl
  replace hf_b2 := Nat.le_trans hW.2.2 hf_b2
  replace hW := grown_trans hW hD.gr
  clear hD
  simp only [finAct, putAll, valsFrom, Plan.value, Act.put, List.setIfInBounds_toArray, List.set_cons_zero, List.set_cons_succ]
  replace hGl := hGl0.grown hW
  generalize β (0 + 1 + 1) = b2 at *
  repeat ((fail_if_success (with_reducible show Code.wp _ (Code.region _ _ _) _ _ _)); go_step)
  refine wp_plain_fin [.val (sn ((a) % p)), .val (bv ((a) % p)), .fin] (b1) 0 (fun _ => bl ((a) % p)) (by kernel_rfl) (fun β => ?_) (fun β w3 hD => ?_)
  · refine Obs.cons (Ob.load (b2) 0 (il 16 (d16 ((a) % p))) rfl rfl (by kernel_rfl) hr_b2 Tryd.underlying45 rfl (by rw [il_length]; exact infoS)) ?_
    refine Obs.cons (Ob.call 38 #[sn ((a) % p)] rfl (fun w => by kernel_rfl) (fun w hg => Bytes_r ((a) % p) w)) ?_
    refine Obs.cons (Ob.fin rfl (by rw [bl_length]; exact ht_b1) rfl (by kernel_rfl) (by kernel_rfl) (by rw [bl_length]; exact info32) (bl_one _)) ?_
    exact Obs.nil
  replace hr_b0 := rangeAt_grown hr_b0 hD.gr
  replace hr_b2 := rangeAt_grown hr_b2 hD.gr
  replace ht_b1 := there_grown ht_b1 hD.gr
  replace ht_b2 := there_grown ht_b2 hD.gr
  replace hW := grown_trans hW hD.gr
  clear hD
  simp only [finAct, putAll, valsFrom, Plan.value, Act.put, List.setIfInBounds_toArray, List.set_cons_zero, List.set_cons_succ]
  replace hGl := hGl0.grown hW
  have hs3 := World.rangeAt_setCells_same w3 (b1) 0 (bl ((a) % p)) (by rw [bl_length]; exact ht_b1)
  replace hW := grown_setCells hf_b1 (bl ((a) % p)) 0 hW
  generalize w3.setCells (b1) 0 (bl ((a) % p)) = w3s at *
  repeat go_step
  refine bodyPost_ret (v := bv ((a) % p)) (result_cells Tryd.results98 _ _ (b1) _ ?hp hs3 Tryd.underlying23 rfl (by rw [bl_length]; exact info32)) ?hd ?_
  case hp => rfl
  case hd => rfl
  exact ⟨rfl, hW⟩

set_option maxRecDepth 100000 in
set_option maxHeartbeats 4000000 in
theorem NegR_raw (a : Nat) (ha : a < S256) (w : World) (hGl0 : Gp w) : Calls Tryd.prog 74 #[bv (a)] w fun e w' => e = .returned (bv (sb (0 % p) (a % p))) ∧ Grown w w' := by
  have hW := Grown.refl w
  have hGl := hGl0
  go_enter Tryd.func74, Tryd.ntmps74
  repeat ((fail_if_success (with_reducible show Code.wp _ (Code.region _ _ _) _ _ _)); go_step)
  refine wp_plain [.box 23 (bl (a)), .new 23 32] (by kernel_rfl) (fun β => ?_) (fun β w1 hD => ?_)
  · refine Obs.cons (Ob.box rfl rfl (by kernel_rfl)) ?_
    refine Obs.cons (Ob.new _ rfl rfl zero32.1 (by simp [bl_length])) ?_
    exact Obs.nil
  obtain ⟨hf_b0, hr_b0⟩ := hD.bx 0 _ _ rfl
  replace hf_b0 := Nat.le_trans hW.2.2 hf_b0
  obtain ⟨hf_b1, ht_b1⟩ := hD.nw 1 _ _ rfl
  replace hf_b1 := Nat.le_trans hW.2.2 hf_b1
  replace hW := grown_trans hW hD.gr
  clear hD
  simp only [finAct, putAll, valsFrom, Plan.value, Act.put, List.setIfInBounds_toArray, List.set_cons_zero, List.set_cons_succ]
  replace hGl := hGl0.grown hW
  generalize β 0 = b0 at *
  generalize β (0 + 1) = b1 at *
  repeat ((fail_if_success (with_reducible show Code.wp _ (Code.region _ _ _) _ _ _)); go_step)
  refine wp_plain [.val (sn (0)), .new 45 16, .put 1 1 (fun _ => il 16 (d16 (0)))] (by kernel_rfl) (fun β => ?_) (fun β w2 hD => ?_)
  · refine Obs.cons (Ob.call 39 #[.int .i64 (0)] rfl (fun w => by kernel_rfl) (fun w hg => Small_r 0 (by decide) 0 rfl w)) ?_
    refine Obs.cons (Ob.new _ rfl rfl zeroS (by simp [il_length])) ?_
    refine Obs.cons (Ob.put 45 rfl rfl rfl (by kernel_rfl) (by kernel_rfl) (by rw [il_length]; exact infoS) (il_one _ _)) ?_
    exact Obs.nil
  replace hr_b0 := rangeAt_grown hr_b0 hD.gr
  replace ht_b1 := there_grown ht_b1 hD.gr
  obtain ⟨hf_b2, ht_b2⟩ := hD.nw 1 _ _ rfl
  have hr_b2 : w2.rangeAt (β 1) 0 (il 16 (d16 (0))) := hD.rg 2 1 1 (fun _ => il 16 (d16 (0))) rfl
  replace hf_b2 := Nat.le_trans hW.2.2 hf_b2
  replace hW := grown_trans hW hD.gr
  clear hD
  simp only [finAct, putAll, valsFrom, Plan.value, Act.put, List.setIfInBounds_toArray, List.set_cons_zero, List.set_cons_succ]
  replace hGl := hGl0.grown hW
  generalize β (0 + 1) = b2 at *
  repeat ((fail_if_success (with_reducible show Code.wp _ (Code.region _ _ _) _ _ _)); go_step)
  refine wp_plain [.val (bv (a)), .val (sn ((a) % p)), .new 45 16, .put 2 2 (fun _ => il 16 (d16 ((a) % p)))] (by kernel_rfl) (fun β => ?_) (fun β w3 hD => ?_)
  · refine Obs.cons (Ob.load (b0) 0 (bl (a)) rfl rfl (by kernel_rfl) hr_b0 Tryd.underlying23 rfl (by rw [bl_length]; exact info32)) ?_
    refine Obs.cons (Ob.call 62 #[bv (a)] rfl (fun w => by kernel_rfl) (fun w hg => From_r (a) ha w (hGl.grown hg))) ?_
    refine Obs.cons (Ob.new _ rfl rfl zeroS (by simp [il_length])) ?_
    refine Obs.cons (Ob.put 45 rfl rfl rfl (by kernel_rfl) (by kernel_rfl) (by rw [il_length]; exact infoS) (il_one _ _)) ?_
    exact Obs.nil
  replace hr_b0 := rangeAt_grown hr_b0 hD.gr
  replace hr_b2 := rangeAt_grown hr_b2 hD.gr
  replace ht_b1 := there_grown ht_b1 hD.gr
  replace ht_b2 := there_grown ht_b2 hD.gr
  obtain ⟨hf_b3, ht_b3⟩ := hD.nw 2 _ _ rfl
  have hr_b3 : w3.rangeAt (β 2) 0 (il 16 (d16 ((a) % p))) := hD.rg 3 2 2 (fun _ => il 16 (d16 ((a) % p))) rfl
  replace hf_b3 := Nat.le_trans hW.2.2 hf_b3
  replace hW := grown_trans hW hD.gr
  clear hD
  simp only [finAct, putAll, valsFrom, Plan.value, Act.put, List.setIfInBounds_toArray, List.set_cons_zero, List.set_cons_succ]
  replace hGl := hGl0.grown hW
  generalize β (0 + 1 + 1) = b3 at *
  repeat ((fail_if_success (with_reducible show Code.wp _ (Code.region _ _ _) _ _ _)); go_step)
  refine wp_plain [.val (sn (0)), .val (sn ((a) % p)), .val (sn (sb ((0) % p) ((a) % p))), .new 45 16, .put 3 3 (fun _ => il 16 (d16 (sb ((0) % p) ((a) % p))))] (by kernel_rfl) (fun β => ?_) (fun β w4 hD => ?_)
  · refine Obs.cons (Ob.load (b2) 0 (il 16 (d16 (0))) rfl rfl (by kernel_rfl) hr_b2 Tryd.underlying45 rfl (by rw [il_length]; exact infoS)) ?_
    refine Obs.cons (Ob.load (b3) 0 (il 16 (d16 ((a) % p))) rfl rfl (by kernel_rfl) hr_b3 Tryd.underlying45 rfl (by rw [il_length]; exact infoS)) ?_
    refine Obs.cons (Ob.call 66 #[sn (0), sn ((a) % p)] rfl (fun w => by kernel_rfl) (fun w hg => Minus_r (0) ((a) % p) (by decide) (mod_S _) w (hGl.grown hg))) ?_
    refine Obs.cons (Ob.new _ rfl rfl zeroS (by simp [il_length])) ?_
    refine Obs.cons (Ob.put 45 rfl rfl rfl (by kernel_rfl) (by kernel_rfl) (by rw [il_length]; exact infoS) (il_one _ _)) ?_
    exact Obs.nil
  replace hr_b0 := rangeAt_grown hr_b0 hD.gr
  replace hr_b2 := rangeAt_grown hr_b2 hD.gr
  replace hr_b3 := rangeAt_grown hr_b3 hD.gr
  replace ht_b1 := there_grown ht_b1 hD.gr
  replace ht_b2 := there_grown ht_b2 hD.gr
  replace ht_b3 := there_grown ht_b3 hD.gr
  obtain ⟨hf_b4, ht_b4⟩ := hD.nw 3 _ _ rfl
  have hr_b4 : w4.rangeAt (β 3) 0 (il 16 (d16 (sb ((0) % p) ((a) % p)))) := hD.rg 4 3 3 (fun _ => il 16 (d16 (sb ((0) % p) ((a) % p)))) rfl
  replace hf_b4 := Nat.le_trans hW.2.2 hf_b4
  replace hW := grown_trans hW hD.gr
  clear hD
  simp only [finAct, putAll, valsFrom, Plan.value, Act.put, List.setIfInBounds_toArray, List.set_cons_zero, List.set_cons_succ]
  replace hGl := hGl0.grown hW
  generalize β (0 + 1 + 1 + 1) = b4 at *
  repeat ((fail_if_success (with_reducible show Code.wp _ (Code.region _ _ _) _ _ _)); go_step)
  refine wp_plain_fin [.val (sn (sb ((0) % p) ((a) % p))), .val (bv (sb ((0) % p) ((a) % p))), .fin] (b1) 0 (fun _ => bl (sb ((0) % p) ((a) % p))) (by kernel_rfl) (fun β => ?_) (fun β w5 hD => ?_)
  · refine Obs.cons (Ob.load (b4) 0 (il 16 (d16 (sb ((0) % p) ((a) % p)))) rfl rfl (by kernel_rfl) hr_b4 Tryd.underlying45 rfl (by rw [il_length]; exact infoS)) ?_
    refine Obs.cons (Ob.call 38 #[sn (sb ((0) % p) ((a) % p))] rfl (fun w => by kernel_rfl) (fun w hg => Bytes_r (sb ((0) % p) ((a) % p)) w)) ?_
    refine Obs.cons (Ob.fin rfl (by rw [bl_length]; exact ht_b1) rfl (by kernel_rfl) (by kernel_rfl) (by rw [bl_length]; exact info32) (bl_one _)) ?_
    exact Obs.nil
  replace hr_b0 := rangeAt_grown hr_b0 hD.gr
  replace hr_b2 := rangeAt_grown hr_b2 hD.gr
  replace hr_b3 := rangeAt_grown hr_b3 hD.gr
  replace hr_b4 := rangeAt_grown hr_b4 hD.gr
  replace ht_b1 := there_grown ht_b1 hD.gr
  replace ht_b2 := there_grown ht_b2 hD.gr
  replace ht_b3 := there_grown ht_b3 hD.gr
  replace ht_b4 := there_grown ht_b4 hD.gr
  replace hW := grown_trans hW hD.gr
  clear hD
  simp only [finAct, putAll, valsFrom, Plan.value, Act.put, List.setIfInBounds_toArray, List.set_cons_zero, List.set_cons_succ]
  replace hGl := hGl0.grown hW
  have hs5 := World.rangeAt_setCells_same w5 (b1) 0 (bl (sb ((0) % p) ((a) % p))) (by rw [bl_length]; exact ht_b1)
  replace hW := grown_setCells hf_b1 (bl (sb ((0) % p) ((a) % p))) 0 hW
  generalize w5.setCells (b1) 0 (bl (sb ((0) % p) ((a) % p))) = w5s at *
  repeat go_step
  refine bodyPost_ret (v := bv (sb ((0) % p) ((a) % p))) (result_cells Tryd.results74 _ _ (b1) _ ?hp hs5 Tryd.underlying23 rfl (by rw [bl_length]; exact info32)) ?hd ?_
  case hp => rfl
  case hd => rfl
  exact ⟨rfl, hW⟩

theorem NegR (a : Nat) (ha : a < S256) (w : World) (hGl0 : Gp w) : Calls Tryd.prog 74 #[bv a] w fun e w' => e = .returned (bv (ng a)) ∧ Grown w w' := by
  have := NegR_raw a ha w hGl0
  rw [sb_mod'] at this
  exact this
set_option maxRecDepth 100000 in
set_option maxHeartbeats 4000000 in
theorem Equal_e (a b : Nat) (ha : a < S256) (hb : b < S256) (w : World) (hGl0 : Gp w) : Calls Tryd.prog 99 #[bv (a), bv (b)] w fun e w' => e = .returned (.bool (decide (a % p = b % p))) ∧ Grown w w' := by
  have hW := Grown.refl w
  have hGl := hGl0
  go_enter Tryd.func99, Tryd.ntmps99
  repeat ((fail_if_success (with_reducible show Code.wp _ (Code.region _ _ _) _ _ _)); go_step)
  refine wp_plain [.box 23 (bl (a)), .box 23 (bl (b)), .imm (.bool false)] (by kernel_rfl) (fun β => ?_) (fun β w1 hD => ?_)
  · refine Obs.cons (Ob.box rfl rfl (by kernel_rfl)) ?_
    refine Obs.cons (Ob.box rfl rfl (by kernel_rfl)) ?_
    refine Obs.cons (Ob.imm rfl (fun w => by kernel_rfl)) ?_
    exact Obs.nil
  obtain ⟨hf_b0, hr_b0⟩ := hD.bx 0 _ _ rfl
  replace hf_b0 := Nat.le_trans hW.2.2 hf_b0
  obtain ⟨hf_b1, hr_b1⟩ := hD.bx 1 _ _ rfl
  replace hf_b1 := Nat.le_trans hW.2.2 hf_b1
  replace hW := grown_trans hW hD.gr
  clear hD
  simp only [finAct, putAll, valsFrom, Plan.value, Act.put, List.setIfInBounds_toArray, List.set_cons_zero, List.set_cons_succ]
  replace hGl := hGl0.grown hW
  generalize β 0 = b0 at *
  generalize β (0 + 1) = b1 at *
  repeat ((fail_if_success (with_reducible show Code.wp _ (Code.region _ _ _) _ _ _)); go_step)
  replace hr_b0 := rangeAt_grown hr_b0 (gdrew w1)
  replace hr_b1 := rangeAt_grown hr_b1 (gdrew w1)
  replace hW := grown_trans hW (gdrew w1)
  replace hGl := hGl0.grown hW
  refine wp_loose [.val (bv (a)), .val (numV (a)), .val (bv (b)), .val (numV (b)), .val (.bool ((decide (a % p = b % p)))), .imm (.bool ((decide (a % p = b % p))))] (by kernel_rfl) (by kernel_rfl) (fun β => ?_) (fun β w2 hD => ?_)
  · refine Obs.cons (Ob.load (b0) 0 (bl (a)) rfl rfl (by kernel_rfl) hr_b0 Tryd.underlying23 rfl (by rw [bl_length]; exact info32)) ?_
    refine Obs.cons (Ob.call 50 #[bv (a)] rfl (fun w => by kernel_rfl) (fun w hg => load_num (a) w)) ?_
    refine Obs.cons (Ob.load (b1) 0 (bl (b)) rfl rfl (by kernel_rfl) hr_b1 Tryd.underlying23 rfl (by rw [bl_length]; exact info32)) ?_
    refine Obs.cons (Ob.call 50 #[bv (b)] rfl (fun w => by kernel_rfl) (fun w hg => load_num (b) w)) ?_
    refine Obs.cons (Ob.call 83 #[numV (a), numV (b)] rfl (fun w => by kernel_rfl) (fun w hg => equals_is (a) (b) ha hb (decide (a % p = b % p)) (rfl) w)) ?_
    refine Obs.cons (Ob.imm rfl (fun w => by kernel_rfl)) ?_
    exact Obs.nil
  replace hr_b0 := rangeAt_grown hr_b0 hD.gr
  replace hr_b1 := rangeAt_grown hr_b1 hD.gr
  replace hW := grown_trans hW hD.gr
  clear hD
  simp only [finAct, putAll, valsFrom, Plan.value, Act.put, List.setIfInBounds_toArray, List.set_cons_zero, List.set_cons_succ]
  replace hGl := hGl0.grown hW
  repeat go_step
  go_ret
  exact ⟨rfl, hW⟩

end Go.Proofs.YtkegcilcapnpdaaDoor
