import Derived.Test.YtoimglbjepppmaaDoorZQy
import Derived.Test.YtoimglbjepppmaaDoorZPd
namespace FieldNum
theorem inv_5 : inv 5 = 11579208923731619542357098500868790785326998466564056403945758400791312963990 := (inv_uniq (by decide +kernel) (by decide +kernel)).symm
theorem By_frac {a b : Nat} (ha : a % p = inv 5) (hb : b % p = 4 * a % p) : b % p = By := by
  have : 4 * a % p = 4 * inv 5 % p := mcong (a := 4) rfl (ha.trans (Nat.mod_eq_of_lt (inv_lt _)).symm)
  rw [hb, this, inv_5]; decide +kernel
theorem dd_times {a b c : Nat} (ha : a % p = sb 0 121665) (hb : b % p = inv 121666) (hc : c % p = a * b % p) : c % p = dd := by
  have h1 : a % p = sb 0 121665 % p := ha.trans (by decide +kernel)
  have : a * b % p = sb 0 121665 * inv 121666 % p := mcong h1 (hb.trans (Nat.mod_eq_of_lt (inv_lt _)).symm)
  rw [hc, this, inv_e]; decide +kernel
theorem root_base : RootOf (uu By) (vv By) Bx := ⟨by decide +kernel, by decide +kernel, by decide +kernel, fun h => absurd h (by decide +kernel)⟩
theorem rok_base : rok (uu By) (vv By) := .inr ((hp_pm _).trans (by decide +kernel))
end FieldNum
namespace Go.Proofs.YtoimglbjepppmaaDoor
open Go.RowKit Go.Shelf FieldNum
theorem By_H : By % H = By := by decide +kernel

theorem there_d {w : World} {b : Nat} (j : Nat) (hj : j < 17) (h : w.there b 0 17) : w.there b j 1 := by
  intro i hi
  have : i = 0 := by omega
  subst this
  have := h j hj
  rwa [Nat.zero_add] at this
theorem rangeAt_digit {w : World} {b : Nat} {f g : Nat → Int} {c : Int} (h : w.rangeAt b 0 (rl f)) (h1 : g 1 = c ∧ ∀ j, j < 17 → j ≠ 1 → g j = f j) : (w.setCell ⟨b, 1, none⟩ (.int .i64 c)).rangeAt b 0 (rl g) := by
  intro j v hv
  have hj : j < 17 := by have := lt_of_get hv; rwa [rl_length] at this
  rw [rl_get g j hj] at hv
  injection hv with hv
  subst hv
  rw [Nat.zero_add]
  by_cases e : j = 1
  · subst e
    have h0 := cell_r h hj
    simp [go_sem, h0, h1.1]
  · have h0 := cell_r h hj
    rw [World.cell?_setCell_other]
    · rw [h0, h1.2 j hj e]
    · intro e2
      injection e2 with _ e3 _
      omega

set_option maxRecDepth 100000 in
set_option maxHeartbeats 2000000 in
theorem big_121665 (w : World) : Calls Tryd.prog 92 #[.int .i64 121665] w fun e w' => e = .returned (rn 121665) ∧ Grown w w' := by
  have hW := Grown.refl w
  go_enter Tryd.func92, Tryd.ntmps92
  repeat ((fail_if_success (with_reducible show Code.wp _ (Code.region _ _ _) _ _ _)); go_step)
  refine wp_plain [.new 77 17] (by kernel_rfl) (fun β => ?_) (fun β w1 hD => ?_)
  · refine Obs.cons (Ob.new _ rfl rfl zeroR (by simp [rl_length])) ?_
    exact Obs.nil
  obtain ⟨hf_b0, ht_b0⟩ := hD.nw 0 _ _ rfl
  replace hf_b0 := Nat.le_trans hW.2.2 hf_b0
  replace hW := grown_trans hW hD.gr
  clear hD
  simp only [finAct, putAll, valsFrom, Plan.value, Act.put, List.setIfInBounds_toArray, List.set_cons_zero, List.set_cons_succ]
  generalize β 0 = b0 at *
  repeat ((fail_if_success (with_reducible show Code.wp _ (Code.region _ _ _) _ _ _)); go_step)
  refine wp_plain [.imm (.int .i64 (121665)), .imm (.int .i64 (23361)), .val (rn (23361)), .new 77 17, .put 3 3 (fun _ => rl (d15 (23361)))] (by kernel_rfl) (fun β => ?_) (fun β w2 hD => ?_)
  · refine Obs.cons (Ob.imm rfl (fun w => by kernel_rfl)) ?_
    refine Obs.cons (Ob.imm rfl (fun w => by kernel_rfl)) ?_
    refine Obs.cons (Ob.call 60 #[.int .i64 (23361)] rfl (fun w => by kernel_rfl) (fun w hg => small_v 23361 (by decide) 23361 rfl w)) ?_
    refine Obs.cons (Ob.new _ rfl rfl zeroR (by simp [rl_length])) ?_
    refine Obs.cons (Ob.put 77 rfl rfl rfl (by kernel_rfl) (by kernel_rfl) (by rw [rl_length]; exact infoR) (rl_one _)) ?_
    exact Obs.nil
  replace ht_b0 := there_grown ht_b0 hD.gr
  obtain ⟨hf_b1, ht_b1⟩ := hD.nw 3 _ _ rfl
  have hr_b1 : w2.rangeAt (β 3) 0 (rl (d15 (23361))) := hD.rg 4 3 3 (fun _ => rl (d15 (23361))) rfl
  replace hf_b1 := Nat.le_trans hW.2.2 hf_b1
  replace hW := grown_trans hW hD.gr
  clear hD
  simp only [finAct, putAll, valsFrom, Plan.value, Act.put, List.setIfInBounds_toArray, List.set_cons_zero, List.set_cons_succ]
  generalize β (0 + 1 + 1 + 1) = b1 at *
  repeat ((fail_if_success (with_reducible show Code.wp _ (Code.region _ _ _) _ _ _)); go_step)
  refine wp_plain_fin [.imm (.int .i64 (121665)), .imm (.int .i64 (3)), .imm (.pointer (some ⟨b1, 1, none⟩)), .fin] (b1) 1 (fun _ => [.int .i64 (3)]) (by kernel_rfl) (fun β => ?_) (fun β w3 hD => ?_)
  · refine Obs.cons (Ob.imm rfl (fun w => by kernel_rfl)) ?_
    refine Obs.cons (Ob.imm rfl (fun w => by kernel_rfl)) ?_
    refine Obs.cons (Ob.imm rfl (fun w => exec_idxR 1 (by decide) rfl (by kernel_rfl) (by kernel_rfl))) ?_
    refine Obs.cons (Ob.fin1 (.int .i64 (3)) rfl rfl (there_d 1 (by decide) ht_b1) rfl (by kernel_rfl) (by kernel_rfl) (fun w v0 h hf => run_storeI w v0 h hf)) ?_
    exact Obs.nil
  replace hr_b1 := rangeAt_grown hr_b1 hD.gr
  replace ht_b0 := there_grown ht_b0 hD.gr
  replace ht_b1 := there_grown ht_b1 hD.gr
  replace hW := grown_trans hW hD.gr
  clear hD
  simp only [finAct, putAll, valsFrom, Plan.value, Act.put, List.setIfInBounds_toArray, List.set_cons_zero, List.set_cons_succ]
  have hs3 : (w3.setCells (b1) 1 [.int .i64 (3)]).rangeAt (b1) 0 (rl (d15 (121665))) := rangeAt_digit hr_b1 (⟨by decide +kernel, by decide +kernel⟩)
  replace hW := grown_setCells hf_b1 [.int .i64 (3)] 1 hW
  replace ht_b0 := World.there_setCells ht_b0 (b1) 1 [.int .i64 (3)]
  replace ht_b1 := World.there_setCells ht_b1 (b1) 1 [.int .i64 (3)]
  generalize w3.setCells (b1) 1 [.int .i64 (3)] = w3s at *
  repeat ((fail_if_success (with_reducible show Code.wp _ (Code.region _ _ _) _ _ _)); go_step)
  refine wp_plain_fin [.val (rn (121665)), .fin] (b0) 0 (fun _ => rl (d15 (121665))) (by kernel_rfl) (fun β => ?_) (fun β w4 hD => ?_)
  · refine Obs.cons (Ob.load (b1) 0 (rl (d15 (121665))) rfl rfl (by kernel_rfl) hs3 Tryd.underlying77 rfl (by rw [rl_length]; exact infoR)) ?_
    refine Obs.cons (Ob.fin rfl (by rw [rl_length]; exact ht_b0) rfl (by kernel_rfl) (by kernel_rfl) (by rw [rl_length]; exact infoR) (rl_one _)) ?_
    exact Obs.nil
  replace hs3 := rangeAt_grown hs3 hD.gr
  replace ht_b0 := there_grown ht_b0 hD.gr
  replace ht_b1 := there_grown ht_b1 hD.gr
  replace hW := grown_trans hW hD.gr
  clear hD
  simp only [finAct, putAll, valsFrom, Plan.value, Act.put, List.setIfInBounds_toArray, List.set_cons_zero, List.set_cons_succ]
  have hs4 := World.rangeAt_setCells_same w4 (b0) 0 (rl (d15 (121665))) (by rw [rl_length]; exact ht_b0)
  replace hW := grown_setCells hf_b0 (rl (d15 (121665))) 0 hW
  generalize w4.setCells (b0) 0 (rl (d15 (121665))) = w4s at *
  repeat go_step
  refine bodyPost_ret (v := rn (121665)) (result_cells Tryd.results92 _ _ (b0) _ ?hp hs4 Tryd.underlying77 rfl (by rw [rl_length]; exact infoR)) ?hd ?_
  case hp => rfl
  case hd => rfl
  exact ⟨rfl, hW⟩

set_option maxRecDepth 100000 in
set_option maxHeartbeats 2000000 in
theorem big_121666 (w : World) : Calls Tryd.prog 92 #[.int .i64 121666] w fun e w' => e = .returned (rn 121666) ∧ Grown w w' := by
  have hW := Grown.refl w
  go_enter Tryd.func92, Tryd.ntmps92
  repeat ((fail_if_success (with_reducible show Code.wp _ (Code.region _ _ _) _ _ _)); go_step)
  refine wp_plain [.new 77 17] (by kernel_rfl) (fun β => ?_) (fun β w1 hD => ?_)
  · refine Obs.cons (Ob.new _ rfl rfl zeroR (by simp [rl_length])) ?_
    exact Obs.nil
  obtain ⟨hf_b0, ht_b0⟩ := hD.nw 0 _ _ rfl
  replace hf_b0 := Nat.le_trans hW.2.2 hf_b0
  replace hW := grown_trans hW hD.gr
  clear hD
  simp only [finAct, putAll, valsFrom, Plan.value, Act.put, List.setIfInBounds_toArray, List.set_cons_zero, List.set_cons_succ]
  generalize β 0 = b0 at *
  repeat ((fail_if_success (with_reducible show Code.wp _ (Code.region _ _ _) _ _ _)); go_step)
  refine wp_plain [.imm (.int .i64 (121666)), .imm (.int .i64 (23362)), .val (rn (23362)), .new 77 17, .put 3 3 (fun _ => rl (d15 (23362)))] (by kernel_rfl) (fun β => ?_) (fun β w2 hD => ?_)
  · refine Obs.cons (Ob.imm rfl (fun w => by kernel_rfl)) ?_
    refine Obs.cons (Ob.imm rfl (fun w => by kernel_rfl)) ?_
    refine Obs.cons (Ob.call 60 #[.int .i64 (23362)] rfl (fun w => by kernel_rfl) (fun w hg => small_v 23362 (by decide) 23362 rfl w)) ?_
    refine Obs.cons (Ob.new _ rfl rfl zeroR (by simp [rl_length])) ?_
    refine Obs.cons (Ob.put 77 rfl rfl rfl (by kernel_rfl) (by kernel_rfl) (by rw [rl_length]; exact infoR) (rl_one _)) ?_
    exact Obs.nil
  replace ht_b0 := there_grown ht_b0 hD.gr
  obtain ⟨hf_b1, ht_b1⟩ := hD.nw 3 _ _ rfl
  have hr_b1 : w2.rangeAt (β 3) 0 (rl (d15 (23362))) := hD.rg 4 3 3 (fun _ => rl (d15 (23362))) rfl
  replace hf_b1 := Nat.le_trans hW.2.2 hf_b1
  replace hW := grown_trans hW hD.gr
  clear hD
  simp only [finAct, putAll, valsFrom, Plan.value, Act.put, List.setIfInBounds_toArray, List.set_cons_zero, List.set_cons_succ]
  generalize β (0 + 1 + 1 + 1) = b1 at *
  repeat ((fail_if_success (with_reducible show Code.wp _ (Code.region _ _ _) _ _ _)); go_step)
  refine wp_plain_fin [.imm (.int .i64 (121666)), .imm (.int .i64 (3)), .imm (.pointer (some ⟨b1, 1, none⟩)), .fin] (b1) 1 (fun _ => [.int .i64 (3)]) (by kernel_rfl) (fun β => ?_) (fun β w3 hD => ?_)
  · refine Obs.cons (Ob.imm rfl (fun w => by kernel_rfl)) ?_
    refine Obs.cons (Ob.imm rfl (fun w => by kernel_rfl)) ?_
    refine Obs.cons (Ob.imm rfl (fun w => exec_idxR 1 (by decide) rfl (by kernel_rfl) (by kernel_rfl))) ?_
    refine Obs.cons (Ob.fin1 (.int .i64 (3)) rfl rfl (there_d 1 (by decide) ht_b1) rfl (by kernel_rfl) (by kernel_rfl) (fun w v0 h hf => run_storeI w v0 h hf)) ?_
    exact Obs.nil
  replace hr_b1 := rangeAt_grown hr_b1 hD.gr
  replace ht_b0 := there_grown ht_b0 hD.gr
  replace ht_b1 := there_grown ht_b1 hD.gr
  replace hW := grown_trans hW hD.gr
  clear hD
  simp only [finAct, putAll, valsFrom, Plan.value, Act.put, List.setIfInBounds_toArray, List.set_cons_zero, List.set_cons_succ]
  have hs3 : (w3.setCells (b1) 1 [.int .i64 (3)]).rangeAt (b1) 0 (rl (d15 (121666))) := rangeAt_digit hr_b1 (⟨by decide +kernel, by decide +kernel⟩)
  replace hW := grown_setCells hf_b1 [.int .i64 (3)] 1 hW
  replace ht_b0 := World.there_setCells ht_b0 (b1) 1 [.int .i64 (3)]
  replace ht_b1 := World.there_setCells ht_b1 (b1) 1 [.int .i64 (3)]
  generalize w3.setCells (b1) 1 [.int .i64 (3)] = w3s at *
  repeat ((fail_if_success (with_reducible show Code.wp _ (Code.region _ _ _) _ _ _)); go_step)
  refine wp_plain_fin [.val (rn (121666)), .fin] (b0) 0 (fun _ => rl (d15 (121666))) (by kernel_rfl) (fun β => ?_) (fun β w4 hD => ?_)
  · refine Obs.cons (Ob.load (b1) 0 (rl (d15 (121666))) rfl rfl (by kernel_rfl) hs3 Tryd.underlying77 rfl (by rw [rl_length]; exact infoR)) ?_
    refine Obs.cons (Ob.fin rfl (by rw [rl_length]; exact ht_b0) rfl (by kernel_rfl) (by kernel_rfl) (by rw [rl_length]; exact infoR) (rl_one _)) ?_
    exact Obs.nil
  replace hs3 := rangeAt_grown hs3 hD.gr
  replace ht_b0 := there_grown ht_b0 hD.gr
  replace ht_b1 := there_grown ht_b1 hD.gr
  replace hW := grown_trans hW hD.gr
  clear hD
  simp only [finAct, putAll, valsFrom, Plan.value, Act.put, List.setIfInBounds_toArray, List.set_cons_zero, List.set_cons_succ]
  have hs4 := World.rangeAt_setCells_same w4 (b0) 0 (rl (d15 (121666))) (by rw [rl_length]; exact ht_b0)
  replace hW := grown_setCells hf_b0 (rl (d15 (121666))) 0 hW
  generalize w4.setCells (b0) 0 (rl (d15 (121666))) = w4s at *
  repeat go_step
  refine bodyPost_ret (v := rn (121666)) (result_cells Tryd.results92 _ _ (b0) _ ?hp hs4 Tryd.underlying77 rfl (by rw [rl_length]; exact infoR)) ?hd ?_
  case hp => rfl
  case hd => rfl
  exact ⟨rfl, hW⟩

set_option maxRecDepth 100000 in
set_option maxHeartbeats 2000000 in
theorem curve_r (w : World) : Calls Tryd.prog 64 #[] w fun e w' => (∃ z, e = .returned (rn z) ∧ z < H ∧ z % p = dd) ∧ Grown w w' := by
  have hW := Grown.refl w
  go_enter Tryd.func64, Tryd.ntmps64
  repeat ((fail_if_success (with_reducible show Code.wp _ (Code.region _ _ _) _ _ _)); go_step)
  refine wp_plain [.new 77 17] (by kernel_rfl) (fun β => ?_) (fun β w1 hD => ?_)
  · refine Obs.cons (Ob.new _ rfl rfl zeroR (by simp [rl_length])) ?_
    exact Obs.nil
  obtain ⟨hf_b0, ht_b0⟩ := hD.nw 0 _ _ rfl
  replace hf_b0 := Nat.le_trans hW.2.2 hf_b0
  replace hW := grown_trans hW hD.gr
  clear hD
  simp only [finAct, putAll, valsFrom, Plan.value, Act.put, List.setIfInBounds_toArray, List.set_cons_zero]
  generalize β 0 = b0 at *
  repeat ((fail_if_success (with_reducible show Code.wp _ (Code.region _ _ _) _ _ _)); go_step)
  refine wp_plain [.val (rn (0)), .val (rn (121665)), .any (fun z => rn (z)) [] (fun l z => z < H ∧ z % p = sb (0) (121665)), .new 77 17, .put 3 2 (fun z => rl (d15 (z)))] (by kernel_rfl) (fun β => ?_) (fun β w2 hD => ?_)
  · refine Obs.cons (Ob.call 60 #[.int .i64 (0)] rfl (fun w => by kernel_rfl) (fun w hg => small_v 0 (by decide) 0 rfl w)) ?_
    refine Obs.cons (Ob.call 92 #[.int .i64 (121665)] rfl (fun w => by kernel_rfl) (fun w hg => big_121665 w)) ?_
    refine Obs.cons (Ob.any 71 #[rn (0), rn (121665)] rfl (fun w => by kernel_rfl) (fun hk w hg => minus_r (0) (121665) (by decide) (by decide) w)) ?_
    refine Obs.cons (Ob.new _ rfl rfl zeroR (by simp [rl_length])) ?_
    refine Obs.cons (Ob.put 77 rfl rfl rfl (by kernel_rfl) (by kernel_rfl) (by rw [rl_length]; exact infoR) (rl_one _)) ?_
    exact Obs.nil
  replace ht_b0 := there_grown ht_b0 hD.gr
  obtain ⟨hf_b1, ht_b1⟩ := hD.nw 3 _ _ rfl
  have hr_b1 : w2.rangeAt (β 3) 0 (rl (d15 (β 2))) := hD.rg 4 3 2 (fun z => rl (d15 (z))) rfl
  replace hf_b1 := Nat.le_trans hW.2.2 hf_b1
  have hz2_2 : (β 2) < H ∧ (β 2) % p = sb (0) (121665) := hD.an 2 _ _ _ rfl
  replace hW := grown_trans hW hD.gr
  clear hD
  simp only [finAct, putAll, valsFrom, Plan.value, Act.put, List.setIfInBounds_toArray, List.set_cons_zero, List.set_cons_succ]
  generalize β (0 + 1 + 1 + 1) = b1 at *
  generalize β (0 + 1 + 1) = z2_2 at *
  have hq2_2 := Hid.of hz2_2.2
  replace hz2_2 := hz2_2.1
  repeat ((fail_if_success (with_reducible show Code.wp _ (Code.region _ _ _) _ _ _)); go_step)
  replace hr_b1 := rangeAt_grown hr_b1 (gdrew w2)
  replace ht_b0 := there_grown ht_b0 (gdrew w2)
  replace ht_b1 := there_grown ht_b1 (gdrew w2)
  replace hW := grown_trans hW (gdrew w2)
  refine wp_loose_fin [.val (rn (z2_2)), .val (rn (121666)), .any (fun z => rn (z)) [] (fun l z => z < H ∧ z % p = inv (121666)), .any (fun z => rn (z)) [2] (fun l z => z < H ∧ z % p = (z2_2) * (l.getD 0 0) % p), .fin] (b0) 0 (fun β => rl (d15 (β 3))) (by kernel_rfl) (by kernel_rfl) (fun β => ?_) (fun β w3 hD => ?_)
  · refine Obs.cons (Ob.load (b1) 0 (rl (d15 (z2_2))) rfl rfl (by kernel_rfl) hr_b1 Tryd.underlying77 rfl (by rw [rl_length]; exact infoR)) ?_
    refine Obs.cons (Ob.call 92 #[.int .i64 (121666)] rfl (fun w => by kernel_rfl) (fun w hg => big_121666 w)) ?_
    refine Obs.cons (Ob.any 72 #[rn (121666)] rfl (fun w => by kernel_rfl) (fun hk w hg => inverse_r (121666) (by decide) w)) ?_
    refine Obs.cons (Ob.any 68 #[rn (z2_2), rn (β 2)] rfl (fun w => by kernel_rfl) (fun hk w hg => times_r (z2_2) (β 2) hz2_2 (hk 2 _ _ _ rfl (bindsTo_spec (by kernel_rfl))).1 w)) ?_
    refine Obs.cons (Ob.fin rfl (by rw [rl_length]; exact ht_b0) rfl (by kernel_rfl) (by kernel_rfl) (by rw [rl_length]; exact infoR) (rl_one _)) ?_
    exact Obs.nil
  replace hr_b1 := rangeAt_grown hr_b1 hD.gr
  replace ht_b0 := there_grown ht_b0 hD.gr
  replace ht_b1 := there_grown ht_b1 hD.gr
  have hz3_2 : (β 2) < H ∧ (β 2) % p = inv (121666) := hD.an 2 _ _ _ rfl
  have hz3_3 : (β 3) < H ∧ (β 3) % p = (z2_2) * (β 2) % p := hD.an 3 _ _ _ rfl
  replace hW := grown_trans hW hD.gr
  clear hD
  simp only [finAct, putAll, valsFrom, Plan.value, Act.put, List.setIfInBounds_toArray, List.set_cons_zero, List.set_cons_succ]
  generalize β (0 + 1 + 1) = z3_2 at *
  generalize β (0 + 1 + 1 + 1) = z3_3 at *
  have hq3_2 := Hid.of hz3_2.2
  replace hz3_2 := hz3_2.1
  have hq3_3 := Hid.of hz3_3.2
  replace hz3_3 := hz3_3.1
  have hs3 := World.rangeAt_setCells_same w3 (b0) 0 (rl (d15 (z3_3))) (by rw [rl_length]; exact ht_b0)
  replace hW := grown_setCells hf_b0 (rl (d15 (z3_3))) 0 hW
  generalize w3.setCells (b0) 0 (rl (d15 (z3_3))) = w3s at *
  repeat go_step
  refine bodyPost_ret (v := rn (z3_3)) (result_cells Tryd.results64 _ _ (b0) (rl (d15 (z3_3))) ?hp hs3 Tryd.underlying77 rfl (by rw [rl_length]; exact infoR)) ?hd ?_
  case hp => rfl
  case hd => rfl
  exact ⟨⟨_, rfl, hz3_3, dd_times hq2_2.out hq3_2.out hq3_3.out⟩, hW⟩

theorem dd_mod : dd % p = dd := Nat.mod_eq_of_lt dd_lt
set_option maxRecDepth 100000 in
set_option maxHeartbeats 2000000 in
theorem Curve_r (w : World) (hGl0 : GR w) : Calls Tryd.prog 26 #[] w fun e w' => e = .returned (.bool true) ∧ Grown w w' := by
  have hW := Grown.refl w
  have hGl := hGl0
  go_enter Tryd.func26, Tryd.ntmps26
  repeat ((fail_if_success (with_reducible show Code.wp _ (Code.region _ _ _) _ _ _)); go_step)
  refine wp_plain [.imm (.bool false)] (by kernel_rfl) (fun β => ?_) (fun β w1 hD => ?_)
  · refine Obs.cons (Ob.imm rfl (fun w => by kernel_rfl)) ?_
    exact Obs.nil
  replace hW := grown_trans hW hD.gr
  clear hD
  simp only [finAct, putAll, valsFrom, Plan.value, Act.put, List.setIfInBounds_toArray, List.set_cons_zero]
  replace hGl := hGl0.grown hW
  repeat ((fail_if_success (with_reducible show Code.wp _ (Code.region _ _ _) _ _ _)); go_step)
  refine wp_plain [.val (bv (dd)), .val (rn (dd)), .any (fun z => rn (z)) [] (fun l z => z < H ∧ z % p = dd), .val (.bool true), .imm (.bool true)] (by kernel_rfl) (fun β => ?_) (fun β w2 hD => ?_)
  · refine Obs.cons (Ob.load (1) 0 (bl (dd)) rfl rfl (by kernel_rfl) hGl.rd Tryd.underlying23 rfl (by rw [bl_length]; exact info32)) ?_
    refine Obs.cons (Ob.call 63 #[bv (dd)] rfl (fun w => by kernel_rfl) (fun w hg => read_d w)) ?_
    refine Obs.cons (Ob.any 64 #[] rfl (fun w => by kernel_rfl) (fun hk w hg => curve_r w)) ?_
    refine Obs.cons (Ob.call' 62 #[rn (dd), rn (β 2)] rfl (fun w => by kernel_rfl) (fun hk w hg => equal_is (dd) (β 2) dd_H (hk 2 _ _ _ rfl (bindsTo_spec (by kernel_rfl))).1 true (decide_eq_true (dd_mod.trans ((hk 2 _ _ _ rfl (bindsTo_spec (by kernel_rfl))).2).symm)) w)) ?_
    refine Obs.cons (Ob.imm rfl (fun w => by kernel_rfl)) ?_
    exact Obs.nil
  have hz2_2 : (β 2) < H ∧ (β 2) % p = dd := hD.an 2 _ _ _ rfl
  replace hW := grown_trans hW hD.gr
  clear hD
  simp only [finAct, putAll, valsFrom, Plan.value, Act.put, List.setIfInBounds_toArray, List.set_cons_zero, List.set_cons_succ]
  replace hGl := hGl0.grown hW
  generalize β (0 + 1 + 1) = z2_2 at *
  have hq2_2 := Hid.of hz2_2.2
  replace hz2_2 := hz2_2.1
  repeat go_step
  go_ret
  exact ⟨rfl, hW⟩

theorem RD_base (w : World) (hG : GR w) : Calls Tryd.prog 36 #[bv By] w fun e w' => e = .returned (.tuple #[pv Bx By, .int .i64 0]) ∧ Grown w w' := by
  have := RD_even1 By By_M (by decide +kernel) (by rw [By_H]; decide +kernel) (by rw [By_H]; exact rok_base) (by rw [By_H, rt_eq root_base]; decide +kernel) w hG
  rwa [By_H, rt_eq root_base] at this
theorem told_b (w : World) : Calls Tryd.prog 59 #[cv Bx By 1] w fun e w' => e = .returned (pv Bx By) ∧ Grown w w' := by
  have := told_r Bx By 1 (by decide +kernel) (by decide +kernel) (by decide) w
  rw [inv_one, show Bx * 1 % p = Bx by decide +kernel, show By * 1 % p = By by decide +kernel] at this
  exact this

set_option maxRecDepth 100000 in
set_option maxHeartbeats 2000000 in
theorem base_r (w : World) (hGl0 : GR w) : Calls Tryd.prog 61 #[] w fun e w' => e = .returned (cv Bx By 1) ∧ Grown w w' := by
  have hW := Grown.refl w
  have hGl := hGl0
  go_enter Tryd.func61, Tryd.ntmps61
  repeat ((fail_if_success (with_reducible show Code.wp _ (Code.region _ _ _) _ _ _)); go_step)
  refine wp_plain [.new 80 51] (by kernel_rfl) (fun β => ?_) (fun β w1 hD => ?_)
  · refine Obs.cons (Ob.new _ rfl rfl zeroC (by simp [ccs_length])) ?_
    exact Obs.nil
  obtain ⟨hf_b0, ht_b0⟩ := hD.nw 0 _ _ rfl
  replace hf_b0 := Nat.le_trans hW.2.2 hf_b0
  replace hW := grown_trans hW hD.gr
  clear hD
  simp only [finAct, putAll, valsFrom, Plan.value, Act.put, List.setIfInBounds_toArray, List.set_cons_zero]
  replace hGl := hGl0.grown hW
  generalize β 0 = b0 at *
  repeat ((fail_if_success (with_reducible show Code.wp _ (Code.region _ _ _) _ _ _)); go_step)
  refine wp_plain [.val (rn (4)), .val (rn (5)), .any (fun z => rn (z)) [] (fun l z => z < H ∧ z % p = inv (5)), .any (fun z => rn (z)) [2] (fun l z => z < H ∧ z % p = (4) * (l.getD 0 0) % p), .new 77 17, .put 4 3 (fun z => rl (d15 (z)))] (by kernel_rfl) (fun β => ?_) (fun β w2 hD => ?_)
  · refine Obs.cons (Ob.call 60 #[.int .i64 (4)] rfl (fun w => by kernel_rfl) (fun w hg => small_v 4 (by decide) 4 rfl w)) ?_
    refine Obs.cons (Ob.call 60 #[.int .i64 (5)] rfl (fun w => by kernel_rfl) (fun w hg => small_v 5 (by decide) 5 rfl w)) ?_
    refine Obs.cons (Ob.any 72 #[rn (5)] rfl (fun w => by kernel_rfl) (fun hk w hg => inverse_r (5) (by decide) w)) ?_
    refine Obs.cons (Ob.any 68 #[rn (4), rn (β 2)] rfl (fun w => by kernel_rfl) (fun hk w hg => times_r (4) (β 2) (by decide) (hk 2 _ _ _ rfl (bindsTo_spec (by kernel_rfl))).1 w)) ?_
    refine Obs.cons (Ob.new _ rfl rfl zeroR (by simp [rl_length])) ?_
    refine Obs.cons (Ob.put 77 rfl rfl rfl (by kernel_rfl) (by kernel_rfl) (by rw [rl_length]; exact infoR) (rl_one _)) ?_
    exact Obs.nil
  replace ht_b0 := there_grown ht_b0 hD.gr
  obtain ⟨hf_b1, ht_b1⟩ := hD.nw 4 _ _ rfl
  have hr_b1 : w2.rangeAt (β 4) 0 (rl (d15 (β 3))) := hD.rg 5 4 3 (fun z => rl (d15 (z))) rfl
  replace hf_b1 := Nat.le_trans hW.2.2 hf_b1
  have hz2_2 : (β 2) < H ∧ (β 2) % p = inv (5) := hD.an 2 _ _ _ rfl
  have hz2_3 : (β 3) < H ∧ (β 3) % p = (4) * (β 2) % p := hD.an 3 _ _ _ rfl
  replace hW := grown_trans hW hD.gr
  clear hD
  simp only [finAct, putAll, valsFrom, Plan.value, Act.put, List.setIfInBounds_toArray, List.set_cons_zero, List.set_cons_succ]
  replace hGl := hGl0.grown hW
  generalize β (0 + 1 + 1 + 1 + 1) = b1 at *
  generalize β (0 + 1 + 1) = z2_2 at *
  generalize β (0 + 1 + 1 + 1) = z2_3 at *
  have hq2_2 := Hid.of hz2_2.2
  replace hz2_2 := hz2_2.1
  have hq2_3 := Hid.of hz2_3.2
  replace hz2_3 := hz2_3.1
  have hy := Hid.of (By_frac hq2_2.out hq2_3.out)
  repeat ((fail_if_success (with_reducible show Code.wp _ (Code.region _ _ _) _ _ _)); go_step)
  refine wp_plain [.val (rn (z2_3)), .val (bv (By)), .val (.tuple #[pv (Bx) (By), .int .i64 (0)]), .imm (.tuple #[pv (Bx) (By), .int .i64 (0)]), .imm (pv (Bx) (By)), .imm (.int .i64 (0)), .new 39 64, .put 6 6 (fun _ => pcs (Bx) (By)), .imm (.int .i64 (0))] (by kernel_rfl) (fun β => ?_) (fun β w3 hD => ?_)
  · refine Obs.cons (Ob.load (b1) 0 (rl (d15 (z2_3))) rfl rfl (by kernel_rfl) hr_b1 Tryd.underlying77 rfl (by rw [rl_length]; exact infoR)) ?_
    refine Obs.cons (Ob.call 74 #[rn (z2_3)] rfl (fun w => by kernel_rfl) (fun w hg => by have h := written_r (z2_3) hz2_3 w; rw [hy.out] at h; exact h)) ?_
    refine Obs.cons (Ob.call 36 #[bv (By)] rfl (fun w => by kernel_rfl) (fun w hg => RD_base w (hGl.grown hg))) ?_
    refine Obs.cons (Ob.imm rfl (fun w => by kernel_rfl)) ?_
    refine Obs.cons (Ob.imm rfl (fun w => by kernel_rfl)) ?_
    refine Obs.cons (Ob.imm rfl (fun w => by kernel_rfl)) ?_
    refine Obs.cons (Ob.new _ rfl rfl zeroQ (by simp [pcs_length])) ?_
    refine Obs.cons (Ob.put 39 rfl rfl rfl (by kernel_rfl) (by kernel_rfl) (by rw [pcs_length]; exact infoQ) (pcs_one _ _)) ?_
    refine Obs.cons (Ob.imm rfl (fun w => by kernel_rfl)) ?_
    exact Obs.nil
  replace hr_b1 := rangeAt_grown hr_b1 hD.gr
  replace ht_b0 := there_grown ht_b0 hD.gr
  replace ht_b1 := there_grown ht_b1 hD.gr
  obtain ⟨hf_b2, ht_b2⟩ := hD.nw 6 _ _ rfl
  have hr_b2 : w3.rangeAt (β 6) 0 (pcs (Bx) (By)) := hD.rg 7 6 6 (fun _ => pcs (Bx) (By)) rfl
  replace hf_b2 := Nat.le_trans hW.2.2 hf_b2
  replace hW := grown_trans hW hD.gr
  clear hD
  simp only [finAct, putAll, valsFrom, Plan.value, Act.put, List.setIfInBounds_toArray, List.set_cons_zero, List.set_cons_succ]
  replace hGl := hGl0.grown hW
  generalize β (0 + 1 + 1 + 1 + 1 + 1 + 1) = b2 at *
  have hr_b2x : w3.rangeAt b2 0 (bl (Bx)) := rangeAt_left hr_b2
  have hr_b2y : w3.rangeAt b2 32 (bl (By)) := rangeAt_right 32 (bl_length _) hr_b2
  repeat ((fail_if_success (with_reducible show Code.wp _ (Code.region _ _ _) _ _ _)); go_step)
  refine wp_plain_fin [.val (pv (Bx) (By)), .val (cv (Bx) (By) (1)), .fin] (b0) 0 (fun _ => ccs (Bx) (By) (1)) (by kernel_rfl) (fun β => ?_) (fun β w4 hD => ?_)
  · refine Obs.cons (Ob.load (b2) 0 (pcs (Bx) (By)) rfl rfl (by kernel_rfl) hr_b2 Tryd.underlying39 rfl (by rw [pcs_length]; exact infoQ)) ?_
    refine Obs.cons (Ob.call 80 #[pv (Bx) (By)] rfl (fun w => by kernel_rfl) (fun w hg => taken_r Bx By (by decide +kernel) (by decide +kernel) w)) ?_
    refine Obs.cons (Ob.fin rfl (by rw [ccs_length]; exact ht_b0) rfl (by kernel_rfl) (by kernel_rfl) (by rw [ccs_length]; exact infoC) (ccs_one _ _ _)) ?_
    exact Obs.nil
  replace hr_b1 := rangeAt_grown hr_b1 hD.gr
  replace hr_b2 := rangeAt_grown hr_b2 hD.gr
  replace hr_b2x := rangeAt_grown hr_b2x hD.gr
  replace hr_b2y := rangeAt_grown hr_b2y hD.gr
  replace ht_b0 := there_grown ht_b0 hD.gr
  replace ht_b1 := there_grown ht_b1 hD.gr
  replace ht_b2 := there_grown ht_b2 hD.gr
  replace hW := grown_trans hW hD.gr
  clear hD
  simp only [finAct, putAll, valsFrom, Plan.value, Act.put, List.setIfInBounds_toArray, List.set_cons_zero, List.set_cons_succ]
  replace hGl := hGl0.grown hW
  have hs4 := World.rangeAt_setCells_same w4 (b0) 0 (ccs (Bx) (By) (1)) (by rw [ccs_length]; exact ht_b0)
  replace hW := grown_setCells hf_b0 (ccs (Bx) (By) (1)) 0 hW
  generalize w4.setCells (b0) 0 (ccs (Bx) (By) (1)) = w4s at *
  repeat go_step
  refine bodyPost_ret (v := cv (Bx) (By) (1)) (result_cells Tryd.results61 _ _ (b0) _ ?hp hs4 Tryd.underlying80 rfl (by rw [ccs_length]; exact infoC)) ?hd ?_
  case hp => rfl
  case hd => rfl
  exact ⟨rfl, hW⟩

set_option maxRecDepth 100000 in
set_option maxHeartbeats 2000000 in
theorem BaseR (w : World) (hGl0 : GR w) : Calls Tryd.prog 25 #[] w fun e w' => e = .returned (pv Bx By) ∧ Grown w w' := by
  have hW := Grown.refl w
  have hGl := hGl0
  go_enter Tryd.func25, Tryd.ntmps25
  repeat ((fail_if_success (with_reducible show Code.wp _ (Code.region _ _ _) _ _ _)); go_step)
  refine wp_plain [.new 39 64] (by kernel_rfl) (fun β => ?_) (fun β w1 hD => ?_)
  · refine Obs.cons (Ob.new _ rfl rfl zeroQ (by simp [pcs_length])) ?_
    exact Obs.nil
  obtain ⟨hf_b0, ht_b0⟩ := hD.nw 0 _ _ rfl
  replace hf_b0 := Nat.le_trans hW.2.2 hf_b0
  replace hW := grown_trans hW hD.gr
  clear hD
  simp only [finAct, putAll, valsFrom, Plan.value, Act.put, List.setIfInBounds_toArray, List.set_cons_zero]
  replace hGl := hGl0.grown hW
  generalize β 0 = b0 at *
  repeat ((fail_if_success (with_reducible show Code.wp _ (Code.region _ _ _) _ _ _)); go_step)
  refine wp_plain_fin [.val (cv (Bx) (By) (1)), .val (pv (Bx) (By)), .fin] (b0) 0 (fun _ => pcs (Bx) (By)) (by kernel_rfl) (fun β => ?_) (fun β w2 hD => ?_)
  · refine Obs.cons (Ob.call 61 #[] rfl (fun w => by kernel_rfl) (fun w hg => base_r w (hGl.grown hg))) ?_
    refine Obs.cons (Ob.call 59 #[cv (Bx) (By) (1)] rfl (fun w => by kernel_rfl) (fun w hg => told_b w)) ?_
    refine Obs.cons (Ob.fin rfl (by rw [pcs_length]; exact ht_b0) rfl (by kernel_rfl) (by kernel_rfl) (by rw [pcs_length]; exact infoQ) (pcs_one _ _)) ?_
    exact Obs.nil
  replace ht_b0 := there_grown ht_b0 hD.gr
  replace hW := grown_trans hW hD.gr
  clear hD
  simp only [finAct, putAll, valsFrom, Plan.value, Act.put, List.setIfInBounds_toArray, List.set_cons_zero, List.set_cons_succ]
  replace hGl := hGl0.grown hW
  have hs2 := World.rangeAt_setCells_same w2 (b0) 0 (pcs (Bx) (By)) (by rw [pcs_length]; exact ht_b0)
  replace hW := grown_setCells hf_b0 (pcs (Bx) (By)) 0 hW
  generalize w2.setCells (b0) 0 (pcs (Bx) (By)) = w2s at *
  repeat go_step
  refine bodyPost_ret (v := pv (Bx) (By)) (result_cells Tryd.results25 _ _ (b0) _ ?hp hs2 Tryd.underlying39 rfl (by rw [pcs_length]; exact infoQ)) ?hd ?_
  case hp => rfl
  case hd => rfl
  exact ⟨rfl, hW⟩

set_option maxRecDepth 100000 in
set_option maxHeartbeats 2000000 in
theorem PFirst (w : World) (hGl0 : GR w) : Calls Tryd.prog 5 #[] w fun e w' => e = .returned (.bool true) ∧ Grown w w' := by
  have hW := Grown.refl w
  have hGl := hGl0
  go_enter Tryd.func5, Tryd.ntmps5
  repeat ((fail_if_success (with_reducible show Code.wp _ (Code.region _ _ _) _ _ _)); go_step)
  refine wp_plain [.imm (.bool false)] (by kernel_rfl) (fun β => ?_) (fun β w1 hD => ?_)
  · refine Obs.cons (Ob.imm rfl (fun w => by kernel_rfl)) ?_
    exact Obs.nil
  replace hW := grown_trans hW hD.gr
  clear hD
  simp only [finAct, putAll, valsFrom, Plan.value, Act.put, List.setIfInBounds_toArray, List.set_cons_zero]
  replace hGl := hGl0.grown hW
  repeat ((fail_if_success (with_reducible show Code.wp _ (Code.region _ _ _) _ _ _)); go_step)
  refine wp_plain [.val (pv (0) (1)), .val (pv (0) (1)), .val (.bool true), .imm (.bool true), .val (pv (Bx) (By)), .val (pv (Bx) (By)), .val (.bool true), .imm (.bool true), .imm (.bool true), .val (.bool true), .imm (.bool true), .imm (.bool true)] (by kernel_rfl) (fun β => ?_) (fun β w2 hD => ?_)
  · refine Obs.cons (Ob.call 22 #[] rfl (fun w => by kernel_rfl) (fun w hg => Identity_num w)) ?_
    refine Obs.cons (Ob.call 23 #[] rfl (fun w => by kernel_rfl) (fun w hg => IdentityR w)) ?_
    refine Obs.cons (Ob.call 21 #[pv (0) (1), pv (0) (1)] rfl (fun w => by kernel_rfl) (fun w hg => alike_1 (0) (1) (by decide) (by decide) w)) ?_
    refine Obs.cons (Ob.imm rfl (fun w => by kernel_rfl)) ?_
    refine Obs.cons (Ob.call 24 #[] (by kernel_rfl) (fun w => by kernel_rfl) (fun w hg => Base_num w)) ?_
    refine Obs.cons (Ob.call 25 #[] (by kernel_rfl) (fun w => by kernel_rfl) (fun w hg => BaseR w (hGl.grown hg))) ?_
    refine Obs.cons (Ob.call 21 #[pv (Bx) (By), pv (Bx) (By)] (by kernel_rfl) (fun w => by kernel_rfl) (fun w hg => alike_1 (Bx) (By) Bx_M By_M w)) ?_
    refine Obs.cons (Ob.imm rfl (fun w => by kernel_rfl)) ?_
    refine Obs.cons (Ob.imm rfl (fun w => by kernel_rfl)) ?_
    refine Obs.cons (Ob.call 26 #[] (by kernel_rfl) (fun w => by kernel_rfl) (fun w hg => Curve_r w (hGl.grown hg))) ?_
    refine Obs.cons (Ob.imm rfl (fun w => by kernel_rfl)) ?_
    refine Obs.cons (Ob.imm rfl (fun w => by kernel_rfl)) ?_
    exact Obs.nil
  replace hW := grown_trans hW hD.gr
  clear hD
  simp only [finAct, putAll, valsFrom, Plan.value, Act.put, List.setIfInBounds_toArray, List.set_cons_zero, List.set_cons_succ]
  replace hGl := hGl0.grown hW
  repeat go_step
  go_ret
  exact ⟨rfl, hW⟩

end Go.Proofs.YtoimglbjepppmaaDoor
