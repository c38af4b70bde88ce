import Derived.Test.YteijccjdejjbjaaDoorCu
namespace Go.Proofs.YteijccjdejjbjaaDoor
open Go.RowKit Go.Shelf ScalarNum

theorem r_assoc (a b c : Nat) : sadd (sadd a b) c = sadd a (sadd b c) := by unfold sadd; rw [Nat.mod_add_mod, Nat.add_mod_mod, Nat.add_assoc]
theorem r_neg (a : Nat) : sadd a (sneg a) = 0 := by
  unfold sadd sneg
  have h := modL_lt a
  rw [Nat.add_mod_mod, Nat.add_mod, Nat.add_mod_mod, show a % L + (L - a % L) = L by omega, Nat.mod_self]
theorem r_negneg (a : Nat) : sneg (sneg a) = sred a := by
  unfold sneg sred
  have h := modL_lt a
  rw [Nat.mod_mod]
  by_cases h0 : a % L = 0
  · rw [h0, Nat.sub_zero, Nat.mod_self, Nat.sub_zero, Nat.mod_self]
  · rw [Nat.mod_eq_of_lt (show L - a % L < L by omega), Nat.mod_eq_of_lt (by omega)]
    omega
theorem r_mcomm (a b : Nat) : smad a b 0 = smad b a 0 := by unfold smad; rw [Nat.mul_comm]
theorem r_massoc (a b c : Nat) : smad (smad a b 0) c 0 = smad a (smad b c 0) 0 := by
  unfold smad; rw [Nat.add_zero, Nat.add_zero, Nat.add_zero, Nat.add_zero, Nat.mod_mul_mod, Nat.mul_mod_mod, Nat.mul_assoc]
theorem r_one (a : Nat) : smad a 1 0 = sadd a 0 := by unfold smad sadd; rw [Nat.mul_one]
theorem r_zero (a b : Nat) : smad a 0 b = sadd b 0 := by unfold smad sadd; rw [Nat.mul_zero, Nat.zero_add, Nat.add_zero]
theorem r_dist (a b c : Nat) : smad a (sadd b c) 0 = sadd (smad a b 0) (smad a c 0) := by
  unfold smad sadd; rw [Nat.add_zero, Nat.add_zero, Nat.add_zero, Nat.mul_mod_mod, Nat.mul_add, ← Nat.add_mod]
theorem r_mad (a b c : Nat) : smad a b c = sadd (smad a b 0) c := by unfold smad sadd; rw [Nat.add_zero, Nat.mod_add_mod]
theorem r_negmul (a b : Nat) : smad (sneg a) b (smad a b 0) = 0 := by
  unfold smad sneg
  have h := modL_lt a
  rw [Nat.add_zero, Nat.add_mod_mod, Nat.add_mod, Nat.mod_mul_mod, Nat.mul_mod a b, ← Nat.add_mod_mod]
  rw [show a % L * (b % L) % L % L = a % L * b % L from by rw [Nat.mod_mod, ← Nat.mul_mod, Nat.mod_mul_mod]]
  rw [Nat.mod_add_mod, Nat.add_mod_mod, ← Nat.add_mul, show L - a % L + a % L = L by omega, Nat.mul_mod_right]

set_option maxRecDepth 100000 in
set_option maxHeartbeats 4000000 in
theorem ring_walk (a b c : Nat) (ha : a < M) (hb : b < M) (hc : c < M) (w : World) (hT : Tab w) :
    Calls Tryd.prog 8 #[yv 32 a, yv 32 b, yv 32 c] w fun e w' => e = .returned (.bool true) ∧ Grown w w' := by
  rw [yv, yv, yv]
  go_enter Tryd.func8, Tryd.ntmps8
  go_wp2_with fail
  obtain ⟨hE0, hW0⟩ := params3 w a b c
  generalize (((w.alloc (Obj.cells (yl 32 a).toArray 23)).alloc (Obj.cells (yl 32 b).toArray 23)).alloc (Obj.cells (yl 32 c).toArray 23)) = W0 at hE0 hW0 ⊢
  refine Calls.mono (number_nat 0 (by decide) 0 rfl _) ?_
  rintro e w0 ⟨rfl, hg0⟩
  dsimp only
  go_step
  have hE00 := hE0.grown hg0
  have hW00 := grown_trans hW0 hg0
  clear hE0 hW0 hg0
  go_wp2_with (with_reducible show wpList _ _ _ ({ dst := _, op := Op.store 23 _ _, type := _, pos := _, after := _, guard := _ } :: _) _ _; refine Shut.out ?_)
  show wpList _ _ _ _ _ _
  refine wpList_store_new (0) (by simp) rfl rfl rfl rfl (fun w1 hg1 hr1 _ => ?_)
  simp only [Act.put]
  have hE1 := (hE00.grown hg1).cons hr1
  have hW1 := grown_trans hW00 hg1
  clear hE00 hW00 hg1 hr1
  apply wpList_nil
  repeat ((fail_if_success (with_reducible show Code.wp _ (Code.region _ _ _) _ _ _)); go_step)
  apply wp_region_lit
  go_wp2_with fail
  refine Calls.mono (number_nat 1 (by decide) 1 rfl _) ?_
  rintro e w2 ⟨rfl, hg2⟩
  dsimp only
  go_step
  have hE2 := hE1.grown hg2
  have hW2 := grown_trans hW1 hg2
  clear hE1 hW1 hg2
  go_wp2_with (with_reducible show wpList _ _ _ ({ dst := _, op := Op.store 23 _ _, type := _, pos := _, after := _, guard := _ } :: _) _ _; refine Shut.out ?_)
  show wpList _ _ _ _ _ _
  refine wpList_store_new (1) (by simp) rfl rfl rfl rfl (fun w3 hg3 hr3 _ => ?_)
  simp only [Act.put]
  have hE3 := (hE2.grown hg3).cons hr3
  have hW3 := grown_trans hW2 hg3
  clear hE2 hW2 hg3 hr3
  apply wpList_nil
  repeat ((fail_if_success (with_reducible show Code.wp _ (Code.region _ _ _) _ _ _)); go_step)
  apply wp_region_lit
  go_wp2_with fail
  refine Calls.mono (number_nat 2 (by decide) 2 rfl _) ?_
  rintro e w4 ⟨rfl, hg4⟩
  dsimp only
  go_step
  have hE4 := hE3.grown hg4
  have hW4 := grown_trans hW3 hg4
  clear hE3 hW3 hg4
  go_wp2_with fail
  refine Calls.mono (number_nat 2 (by decide) 2 rfl _) ?_
  rintro e w5 ⟨rfl, hg5⟩
  dsimp only
  go_step
  have hE5 := hE4.grown hg5
  have hW5 := grown_trans hW4 hg5
  clear hE4 hW4 hg5
  go_wp2_with fail
  refine Calls.mono (number_nat 2 (by decide) 2 rfl _) ?_
  rintro e w6 ⟨rfl, hg6⟩
  dsimp only
  go_step
  have hE6 := hE5.grown hg6
  have hW6 := grown_trans hW5 hg6
  clear hE5 hW5 hg6
  go_wp2_with fail
  refine Calls.mono (MulAdd_num (2) (2) (2) (by decide) (by decide) (by decide) _ (hT.grown hW6)) ?_
  rintro e w7 ⟨rfl, hg7⟩
  dsimp only
  go_step
  have hE7 := hE6.grown hg7
  have hW7 := grown_trans hW6 hg7
  clear hE6 hW6 hg7
  go_wp2_with (with_reducible show wpList _ _ _ ({ dst := _, op := Op.store 23 _ _, type := _, pos := _, after := _, guard := _ } :: _) _ _; refine Shut.out ?_)
  show wpList _ _ _ _ _ _
  refine wpList_store_new (smad (2) (2) (2)) (by simp) rfl rfl rfl rfl (fun w8 hg8 hr8 _ => ?_)
  simp only [Act.put]
  have hE8 := (hE7.grown hg8).cons hr8
  have hW8 := grown_trans hW7 hg8
  clear hE7 hW7 hg8 hr8
  apply wpList_nil
  repeat ((fail_if_success (with_reducible show Code.wp _ (Code.region _ _ _) _ _ _)); go_step)
  refine wp_region_noPanic ?_
  refine wp_region_held_drew (S := fun w' => Holds [(w7.heap.size, smad (2) (2) (2)), (w2.heap.size, 1), (w0.heap.size, 0), (w.heap.size, a), (w.heap.size + 1, b), (w.heap.size + 1 + 1, c)] w' ∧ Grown w w') (by kernel_rfl) ⟨hE8, hW8⟩ (fun hH9 => ?_)
  clear hE8 hW8
  refine take32 0 (smad (2) (2) (2)) (w7.heap.size) rfl (by kernel_rfl) (by kernel_rfl) (by kernel_rfl) (fun _ _ _ h => h) (by rfl) rfl rfl (fun _ h => h.1 (w7.heap.size, smad (2) (2) (2)) (.head _)) hH9 ?_
  simp only [Act.put, List.setIfInBounds_toArray, List.set_cons_zero, List.set_cons_succ]
  refine step1 1 (by kernel_rfl) rfl (fun K hK => ?_)
  rw [if_pos (by rfl)]
  go_simp
  refine Calls.mono (number_nat 6 (by decide) 6 rfl _) ?_
  rintro e w10 ⟨rfl, hg10⟩
  dsimp only
  refine hK.out _ _ (keepE hH9 hg10) (fun hH10 => ?_)
  clear hK K
  clear hH9
  clear hg10
  refine takeV 2 (.bool false) rfl (by kernel_rfl) (by kernel_rfl) (by kernel_rfl) (fun _ _ _ h => h) (by rfl) (fun w _ => exec_neq_same rfl (smad (2) (2) (2)) (6) rfl rfl (smad_lt _ _ _) (by decide) (by decide) w) hH10 ?_
  simp only [Act.put, List.setIfInBounds_toArray, List.set_cons_zero, List.set_cons_succ]
  refine wpAnyH_done (by kernel_rfl) ?_ _
  refine NoPanic.normal ?_
  obtain ⟨hE11, hW11⟩ := hH10
  repeat ((fail_if_success (with_reducible show Code.wp _ (Code.region _ _ _) _ _ _)); go_step)
  apply wp_region_lit
  refine wpList_load32 rfl _ rfl _ rfl (a) (hE11 (w.heap.size, a) (.tail _ (.tail _ (.tail _ (.head _))))) ?_
  simp only [Act.put, List.setIfInBounds_toArray, List.set_cons_zero, List.set_cons_succ]
  refine wpList_load32 rfl _ rfl _ rfl (b) (hE11 (w.heap.size + 1, b) (.tail _ (.tail _ (.tail _ (.tail _ (.head _)))))) ?_
  simp only [Act.put, List.setIfInBounds_toArray, List.set_cons_zero, List.set_cons_succ]
  go_wp2_with fail
  refine Calls.mono (Add_num (a) (b) ha hb _ (hT.grown hW11)) ?_
  rintro e w12 ⟨rfl, hg12⟩
  dsimp only
  go_step
  have hE12 := hE11.grown hg12
  have hW12 := grown_trans hW11 hg12
  clear hE11 hW11 hg12
  go_wp2_with (with_reducible show wpList _ _ _ ({ dst := _, op := Op.store 23 _ _, type := _, pos := _, after := _, guard := _ } :: _) _ _; refine Shut.out ?_)
  show wpList _ _ _ _ _ _
  refine wpList_store_new (sadd (a) (b)) (by simp) rfl rfl rfl rfl (fun w13 hg13 hr13 _ => ?_)
  simp only [Act.put]
  have hE13 := (hE12.grown hg13).cons hr13
  have hW13 := grown_trans hW12 hg13
  clear hE12 hW12 hg13 hr13
  apply wpList_nil
  repeat ((fail_if_success (with_reducible show Code.wp _ (Code.region _ _ _) _ _ _)); go_step)
  apply wp_region_lit
  refine wpList_load32 rfl _ rfl _ rfl (b) (hE13 (w.heap.size + 1, b) (.tail _ (.tail _ (.tail _ (.tail _ (.tail _ (.head _))))))) ?_
  simp only [Act.put, List.setIfInBounds_toArray, List.set_cons_zero, List.set_cons_succ]
  refine wpList_load32 rfl _ rfl _ rfl (c) (hE13 (w.heap.size + 1 + 1, c) (.tail _ (.tail _ (.tail _ (.tail _ (.tail _ (.tail _ (.head _)))))))) ?_
  simp only [Act.put, List.setIfInBounds_toArray, List.set_cons_zero, List.set_cons_succ]
  go_wp2_with fail
  refine Calls.mono (Add_num (b) (c) hb hc _ (hT.grown hW13)) ?_
  rintro e w14 ⟨rfl, hg14⟩
  dsimp only
  go_step
  have hE14 := hE13.grown hg14
  have hW14 := grown_trans hW13 hg14
  clear hE13 hW13 hg14
  go_wp2_with (with_reducible show wpList _ _ _ ({ dst := _, op := Op.store 23 _ _, type := _, pos := _, after := _, guard := _ } :: _) _ _; refine Shut.out ?_)
  show wpList _ _ _ _ _ _
  refine wpList_store_new (sadd (b) (c)) (by simp) rfl rfl rfl rfl (fun w15 hg15 hr15 _ => ?_)
  simp only [Act.put]
  have hE15 := (hE14.grown hg15).cons hr15
  have hW15 := grown_trans hW14 hg15
  clear hE14 hW14 hg15 hr15
  apply wpList_nil
  repeat ((fail_if_success (with_reducible show Code.wp _ (Code.region _ _ _) _ _ _)); go_step)
  refine wp_region_noPanic ?_
  refine wp_region_held_drew (S := fun w' => Holds [(w14.heap.size, sadd (b) (c)), (w12.heap.size, sadd (a) (b)), (w7.heap.size, smad (2) (2) (2)), (w2.heap.size, 1), (w0.heap.size, 0), (w.heap.size, a), (w.heap.size + 1, b), (w.heap.size + 1 + 1, c)] w' ∧ Grown w w') (by kernel_rfl) ⟨hE15, hW15⟩ (fun hH16 => ?_)
  clear hE15 hW15
  refine take32 0 (sadd (a) (b)) (w12.heap.size) rfl (by kernel_rfl) (by kernel_rfl) (by kernel_rfl) (fun _ _ _ h => h) (by rfl) rfl rfl (fun _ h => h.1 (w12.heap.size, sadd (a) (b)) (.tail _ (.head _))) hH16 ?_
  simp only [Act.put, List.setIfInBounds_toArray, List.set_cons_zero, List.set_cons_succ]
  refine take32 1 (b) (w.heap.size + 1) rfl (by kernel_rfl) (by kernel_rfl) (by kernel_rfl) (fun _ _ _ h => h) (by rfl) rfl rfl (fun _ h => h.1 (w.heap.size + 1, b) (.tail _ (.tail _ (.tail _ (.tail _ (.tail _ (.tail _ (.head _)))))))) hH16 ?_
  simp only [Act.put, List.setIfInBounds_toArray, List.set_cons_zero, List.set_cons_succ]
  refine take32 2 (a) (w.heap.size) rfl (by kernel_rfl) (by kernel_rfl) (by kernel_rfl) (fun _ _ _ h => h) (by rfl) rfl rfl (fun _ h => h.1 (w.heap.size, a) (.tail _ (.tail _ (.tail _ (.tail _ (.tail _ (.head _))))))) hH16 ?_
  simp only [Act.put, List.setIfInBounds_toArray, List.set_cons_zero, List.set_cons_succ]
  refine step1 3 (by kernel_rfl) rfl (fun K hK => ?_)
  rw [if_pos (by rfl)]
  go_simp
  refine Calls.mono (Add_num (b) (a) hb ha _ (hT.grown hH16.2)) ?_
  rintro e w17 ⟨rfl, hg17⟩
  dsimp only
  refine hK.out _ _ (keepE hH16 hg17) (fun hH17 => ?_)
  clear hK K
  clear hH16
  clear hg17
  refine takeV 4 (.bool false) rfl (by kernel_rfl) (by kernel_rfl) (by kernel_rfl) (fun _ _ _ h => h) (by rfl) (fun w _ => exec_neq_same rfl (sadd (a) (b)) (sadd (b) (a)) rfl rfl (sadd_lt _ _) (sadd_lt _ _) (by unfold sadd; rw [Nat.add_comm]) w) hH17 ?_
  simp only [Act.put, List.setIfInBounds_toArray, List.set_cons_zero, List.set_cons_succ]
  refine takeV 5 (.bool false) rfl (by kernel_rfl) (by kernel_rfl) (by kernel_rfl) (fun _ _ _ h => h) (by rfl) (fun w _ => rfl) hH17 ?_
  simp only [Act.put, List.setIfInBounds_toArray, List.set_cons_zero, List.set_cons_succ]
  refine take32 6 (sadd (a) (b)) (w12.heap.size) rfl (by kernel_rfl) (by kernel_rfl) (by kernel_rfl) (fun _ _ _ h => h) (by rfl) rfl rfl (fun _ h => h.1 (w12.heap.size, sadd (a) (b)) (.tail _ (.head _))) hH17 ?_
  simp only [Act.put, List.setIfInBounds_toArray, List.set_cons_zero, List.set_cons_succ]
  refine take32 7 (c) (w.heap.size + 1 + 1) rfl (by kernel_rfl) (by kernel_rfl) (by kernel_rfl) (fun _ _ _ h => h) (by rfl) rfl rfl (fun _ h => h.1 (w.heap.size + 1 + 1, c) (.tail _ (.tail _ (.tail _ (.tail _ (.tail _ (.tail _ (.tail _ (.head _))))))))) hH17 ?_
  simp only [Act.put, List.setIfInBounds_toArray, List.set_cons_zero, List.set_cons_succ]
  refine take32 9 (a) (w.heap.size) rfl (by kernel_rfl) (by kernel_rfl) (by kernel_rfl) (fun _ _ _ h => h) (by rfl) rfl rfl (fun _ h => h.1 (w.heap.size, a) (.tail _ (.tail _ (.tail _ (.tail _ (.tail _ (.head _))))))) hH17 ?_
  simp only [Act.put, List.setIfInBounds_toArray, List.set_cons_zero, List.set_cons_succ]
  refine take32 10 (sadd (b) (c)) (w14.heap.size) rfl (by kernel_rfl) (by kernel_rfl) (by kernel_rfl) (fun _ _ _ h => h) (by rfl) rfl rfl (fun _ h => h.1 (w14.heap.size, sadd (b) (c)) (.head _)) hH17 ?_
  simp only [Act.put, List.setIfInBounds_toArray, List.set_cons_zero, List.set_cons_succ]
  refine step1 8 (by kernel_rfl) rfl (fun K hK => ?_)
  rw [if_pos (by rfl)]
  go_simp
  refine Calls.mono (Add_num (sadd (a) (b)) (c) (sadd_lt _ _) hc _ (hT.grown hH17.2)) ?_
  rintro e w18 ⟨rfl, hg18⟩
  dsimp only
  refine hK.out _ _ (keepE hH17 hg18) (fun hH18 => ?_)
  clear hK K
  clear hH17
  clear hg18
  refine step1 11 (by kernel_rfl) rfl (fun K hK => ?_)
  rw [if_pos (by rfl)]
  go_simp
  refine Calls.mono (Add_num (a) (sadd (b) (c)) ha (sadd_lt _ _) _ (hT.grown hH18.2)) ?_
  rintro e w19 ⟨rfl, hg19⟩
  dsimp only
  refine hK.out _ _ (keepE hH18 hg19) (fun hH19 => ?_)
  clear hK K
  clear hH18
  clear hg19
  refine takeV 12 (.bool false) rfl (by kernel_rfl) (by kernel_rfl) (by kernel_rfl) (fun _ _ _ h => h) (by rfl) (fun w _ => exec_neq_same rfl (sadd (sadd (a) (b)) (c)) (sadd (a) (sadd (b) (c))) rfl rfl (sadd_lt _ _) (sadd_lt _ _) (r_assoc a b c) w) hH19 ?_
  simp only [Act.put, List.setIfInBounds_toArray, List.set_cons_zero, List.set_cons_succ]
  refine takeV 13 (.bool false) rfl (by kernel_rfl) (by kernel_rfl) (by kernel_rfl) (fun _ _ _ h => h) (by rfl) (fun w _ => rfl) hH19 ?_
  simp only [Act.put, List.setIfInBounds_toArray, List.set_cons_zero, List.set_cons_succ]
  refine wpAnyH_done (by kernel_rfl) ?_ _
  refine NoPanic.normal ?_
  obtain ⟨hE20, hW20⟩ := hH19
  repeat ((fail_if_success (with_reducible show Code.wp _ (Code.region _ _ _) _ _ _)); go_step)
  refine wp_region_noPanic ?_
  refine wp_region_held_drew (S := fun w' => Holds [(w14.heap.size, sadd (b) (c)), (w12.heap.size, sadd (a) (b)), (w7.heap.size, smad (2) (2) (2)), (w2.heap.size, 1), (w0.heap.size, 0), (w.heap.size, a), (w.heap.size + 1, b), (w.heap.size + 1 + 1, c)] w' ∧ Grown w w') (by kernel_rfl) ⟨hE20, hW20⟩ (fun hH21 => ?_)
  clear hE20 hW20
  refine take32 0 (a) (w.heap.size) rfl (by kernel_rfl) (by kernel_rfl) (by kernel_rfl) (fun _ _ _ h => h) (by rfl) rfl rfl (fun _ h => h.1 (w.heap.size, a) (.tail _ (.tail _ (.tail _ (.tail _ (.tail _ (.head _))))))) hH21 ?_
  simp only [Act.put, List.setIfInBounds_toArray, List.set_cons_zero, List.set_cons_succ]
  refine take32 1 (a) (w.heap.size) rfl (by kernel_rfl) (by kernel_rfl) (by kernel_rfl) (fun _ _ _ h => h) (by rfl) rfl rfl (fun _ h => h.1 (w.heap.size, a) (.tail _ (.tail _ (.tail _ (.tail _ (.tail _ (.head _))))))) hH21 ?_
  simp only [Act.put, List.setIfInBounds_toArray, List.set_cons_zero, List.set_cons_succ]
  refine take32 4 (0) (w0.heap.size) rfl (by kernel_rfl) (by kernel_rfl) (by kernel_rfl) (fun _ _ _ h => h) (by rfl) rfl rfl (fun _ h => h.1 (w0.heap.size, 0) (.tail _ (.tail _ (.tail _ (.tail _ (.head _)))))) hH21 ?_
  simp only [Act.put, List.setIfInBounds_toArray, List.set_cons_zero, List.set_cons_succ]
  refine step1 2 (by kernel_rfl) rfl (fun K hK => ?_)
  rw [if_pos (by rfl)]
  go_simp
  refine Calls.mono (Neg_num (a) ha _ (hT.grown hH21.2)) ?_
  rintro e w22 ⟨rfl, hg22⟩
  dsimp only
  refine hK.out _ _ (keepE hH21 hg22) (fun hH22 => ?_)
  clear hK K
  clear hH21
  clear hg22
  refine step1 3 (by kernel_rfl) rfl (fun K hK => ?_)
  rw [if_pos (by rfl)]
  go_simp
  refine Calls.mono (Add_num (a) (sneg (a)) ha (sneg_lt _) _ (hT.grown hH22.2)) ?_
  rintro e w23 ⟨rfl, hg23⟩
  dsimp only
  refine hK.out _ _ (keepE hH22 hg23) (fun hH23 => ?_)
  clear hK K
  clear hH22
  clear hg23
  refine takeV 5 (.bool false) rfl (by kernel_rfl) (by kernel_rfl) (by kernel_rfl) (fun _ _ _ h => h) (by rfl) (fun w _ => exec_neq_same rfl (sadd (a) (sneg (a))) (0) rfl rfl (sadd_lt _ _) (by decide) (r_neg a) w) hH23 ?_
  simp only [Act.put, List.setIfInBounds_toArray, List.set_cons_zero, List.set_cons_succ]
  refine takeV 6 (.bool false) rfl (by kernel_rfl) (by kernel_rfl) (by kernel_rfl) (fun _ _ _ h => h) (by rfl) (fun w _ => rfl) hH23 ?_
  simp only [Act.put, List.setIfInBounds_toArray, List.set_cons_zero, List.set_cons_succ]
  refine take32 7 (a) (w.heap.size) rfl (by kernel_rfl) (by kernel_rfl) (by kernel_rfl) (fun _ _ _ h => h) (by rfl) rfl rfl (fun _ h => h.1 (w.heap.size, a) (.tail _ (.tail _ (.tail _ (.tail _ (.tail _ (.head _))))))) hH23 ?_
  simp only [Act.put, List.setIfInBounds_toArray, List.set_cons_zero, List.set_cons_succ]
  refine take32 10 (a) (w.heap.size) rfl (by kernel_rfl) (by kernel_rfl) (by kernel_rfl) (fun _ _ _ h => h) (by rfl) rfl rfl (fun _ h => h.1 (w.heap.size, a) (.tail _ (.tail _ (.tail _ (.tail _ (.tail _ (.head _))))))) hH23 ?_
  simp only [Act.put, List.setIfInBounds_toArray, List.set_cons_zero, List.set_cons_succ]
  refine step1 8 (by kernel_rfl) rfl (fun K hK => ?_)
  rw [if_pos (by rfl)]
  go_simp
  refine Calls.mono (Neg_num (a) ha _ (hT.grown hH23.2)) ?_
  rintro e w24 ⟨rfl, hg24⟩
  dsimp only
  refine hK.out _ _ (keepE hH23 hg24) (fun hH24 => ?_)
  clear hK K
  clear hH23
  clear hg24
  refine step1 9 (by kernel_rfl) rfl (fun K hK => ?_)
  rw [if_pos (by rfl)]
  go_simp
  refine Calls.mono (Neg_num (sneg (a)) (sneg_lt _) _ (hT.grown hH24.2)) ?_
  rintro e w25 ⟨rfl, hg25⟩
  dsimp only
  refine hK.out _ _ (keepE hH24 hg25) (fun hH25 => ?_)
  clear hK K
  clear hH24
  clear hg25
  refine step1 11 (by kernel_rfl) rfl (fun K hK => ?_)
  rw [if_pos (by rfl)]
  go_simp
  refine Calls.mono (cut_num (a) ha _ (hT.grown hH25.2)) ?_
  rintro e w26 ⟨rfl, hg26⟩
  dsimp only
  refine hK.out _ _ (keepE hH25 hg26) (fun hH26 => ?_)
  clear hK K
  clear hH25
  clear hg26
  refine takeV 12 (.bool false) rfl (by kernel_rfl) (by kernel_rfl) (by kernel_rfl) (fun _ _ _ h => h) (by rfl) (fun w _ => exec_neq_same rfl (sneg (sneg (a))) (sred (a)) rfl rfl (sneg_lt _) (sred_lt _) (r_negneg a) w) hH26 ?_
  simp only [Act.put, List.setIfInBounds_toArray, List.set_cons_zero, List.set_cons_succ]
  refine takeV 13 (.bool false) rfl (by kernel_rfl) (by kernel_rfl) (by kernel_rfl) (fun _ _ _ h => h) (by rfl) (fun w _ => rfl) hH26 ?_
  simp only [Act.put, List.setIfInBounds_toArray, List.set_cons_zero, List.set_cons_succ]
  refine wpAnyH_done (by kernel_rfl) ?_ _
  refine NoPanic.normal ?_
  obtain ⟨hE27, hW27⟩ := hH26
  repeat ((fail_if_success (with_reducible show Code.wp _ (Code.region _ _ _) _ _ _)); go_step)
  apply wp_region_lit
  refine wpList_load32 rfl _ rfl _ rfl (a) (hE27 (w.heap.size, a) (.tail _ (.tail _ (.tail _ (.tail _ (.tail _ (.head _))))))) ?_
  simp only [Act.put, List.setIfInBounds_toArray, List.set_cons_zero, List.set_cons_succ]
  refine wpList_load32 rfl _ rfl _ rfl (b) (hE27 (w.heap.size + 1, b) (.tail _ (.tail _ (.tail _ (.tail _ (.tail _ (.tail _ (.head _)))))))) ?_
  simp only [Act.put, List.setIfInBounds_toArray, List.set_cons_zero, List.set_cons_succ]
  refine wpList_load32 rfl _ rfl _ rfl (0) (hE27 (w0.heap.size, 0) (.tail _ (.tail _ (.tail _ (.tail _ (.head _)))))) ?_
  simp only [Act.put, List.setIfInBounds_toArray, List.set_cons_zero, List.set_cons_succ]
  go_wp2_with fail
  refine Calls.mono (MulAdd_num (a) (b) (0) ha hb (by decide) _ (hT.grown hW27)) ?_
  rintro e w28 ⟨rfl, hg28⟩
  dsimp only
  go_step
  have hE28 := hE27.grown hg28
  have hW28 := grown_trans hW27 hg28
  clear hE27 hW27 hg28
  go_wp2_with (with_reducible show wpList _ _ _ ({ dst := _, op := Op.store 23 _ _, type := _, pos := _, after := _, guard := _ } :: _) _ _; refine Shut.out ?_)
  show wpList _ _ _ _ _ _
  refine wpList_store_new (smad (a) (b) (0)) (by simp) rfl rfl rfl rfl (fun w29 hg29 hr29 _ => ?_)
  simp only [Act.put]
  have hE29 := (hE28.grown hg29).cons hr29
  have hW29 := grown_trans hW28 hg29
  clear hE28 hW28 hg29 hr29
  apply wpList_nil
  repeat ((fail_if_success (with_reducible show Code.wp _ (Code.region _ _ _) _ _ _)); go_step)
  apply wp_region_lit
  refine wpList_load32 rfl _ rfl _ rfl (b) (hE29 (w.heap.size + 1, b) (.tail _ (.tail _ (.tail _ (.tail _ (.tail _ (.tail _ (.tail _ (.head _))))))))) ?_
  simp only [Act.put, List.setIfInBounds_toArray, List.set_cons_zero, List.set_cons_succ]
  refine wpList_load32 rfl _ rfl _ rfl (c) (hE29 (w.heap.size + 1 + 1, c) (.tail _ (.tail _ (.tail _ (.tail _ (.tail _ (.tail _ (.tail _ (.tail _ (.head _)))))))))) ?_
  simp only [Act.put, List.setIfInBounds_toArray, List.set_cons_zero, List.set_cons_succ]
  refine wpList_load32 rfl _ rfl _ rfl (0) (hE29 (w0.heap.size, 0) (.tail _ (.tail _ (.tail _ (.tail _ (.tail _ (.head _))))))) ?_
  simp only [Act.put, List.setIfInBounds_toArray, List.set_cons_zero, List.set_cons_succ]
  go_wp2_with fail
  refine Calls.mono (MulAdd_num (b) (c) (0) hb hc (by decide) _ (hT.grown hW29)) ?_
  rintro e w30 ⟨rfl, hg30⟩
  dsimp only
  go_step
  have hE30 := hE29.grown hg30
  have hW30 := grown_trans hW29 hg30
  clear hE29 hW29 hg30
  go_wp2_with (with_reducible show wpList _ _ _ ({ dst := _, op := Op.store 23 _ _, type := _, pos := _, after := _, guard := _ } :: _) _ _; refine Shut.out ?_)
  show wpList _ _ _ _ _ _
  refine wpList_store_new (smad (b) (c) (0)) (by simp) rfl rfl rfl rfl (fun w31 hg31 hr31 _ => ?_)
  simp only [Act.put]
  have hE31 := (hE30.grown hg31).cons hr31
  have hW31 := grown_trans hW30 hg31
  clear hE30 hW30 hg31 hr31
  apply wpList_nil
  repeat ((fail_if_success (with_reducible show Code.wp _ (Code.region _ _ _) _ _ _)); go_step)
  refine wp_region_noPanic ?_
  refine wp_region_held_drew (S := fun w' => Holds [(w30.heap.size, smad (b) (c) (0)), (w28.heap.size, smad (a) (b) (0)), (w14.heap.size, sadd (b) (c)), (w12.heap.size, sadd (a) (b)), (w7.heap.size, smad (2) (2) (2)), (w2.heap.size, 1), (w0.heap.size, 0), (w.heap.size, a), (w.heap.size + 1, b), (w.heap.size + 1 + 1, c)] w' ∧ Grown w w') (by kernel_rfl) ⟨hE31, hW31⟩ (fun hH32 => ?_)
  clear hE31 hW31
  refine take32 0 (smad (a) (b) (0)) (w28.heap.size) rfl (by kernel_rfl) (by kernel_rfl) (by kernel_rfl) (fun _ _ _ h => h) (by rfl) rfl rfl (fun _ h => h.1 (w28.heap.size, smad (a) (b) (0)) (.tail _ (.head _))) hH32 ?_
  simp only [Act.put, List.setIfInBounds_toArray, List.set_cons_zero, List.set_cons_succ]
  refine take32 1 (b) (w.heap.size + 1) rfl (by kernel_rfl) (by kernel_rfl) (by kernel_rfl) (fun _ _ _ h => h) (by rfl) rfl rfl (fun _ h => h.1 (w.heap.size + 1, b) (.tail _ (.tail _ (.tail _ (.tail _ (.tail _ (.tail _ (.tail _ (.tail _ (.head _)))))))))) hH32 ?_
  simp only [Act.put, List.setIfInBounds_toArray, List.set_cons_zero, List.set_cons_succ]
  refine take32 2 (a) (w.heap.size) rfl (by kernel_rfl) (by kernel_rfl) (by kernel_rfl) (fun _ _ _ h => h) (by rfl) rfl rfl (fun _ h => h.1 (w.heap.size, a) (.tail _ (.tail _ (.tail _ (.tail _ (.tail _ (.tail _ (.tail _ (.head _))))))))) hH32 ?_
  simp only [Act.put, List.setIfInBounds_toArray, List.set_cons_zero, List.set_cons_succ]
  refine take32 3 (0) (w0.heap.size) rfl (by kernel_rfl) (by kernel_rfl) (by kernel_rfl) (fun _ _ _ h => h) (by rfl) rfl rfl (fun _ h => h.1 (w0.heap.size, 0) (.tail _ (.tail _ (.tail _ (.tail _ (.tail _ (.tail _ (.head _)))))))) hH32 ?_
  simp only [Act.put, List.setIfInBounds_toArray, List.set_cons_zero, List.set_cons_succ]
  refine step1 4 (by kernel_rfl) rfl (fun K hK => ?_)
  rw [if_pos (by rfl)]
  go_simp
  refine Calls.mono (MulAdd_num (b) (a) (0) hb ha (by decide) _ (hT.grown hH32.2)) ?_
  rintro e w33 ⟨rfl, hg33⟩
  dsimp only
  refine hK.out _ _ (keepE hH32 hg33) (fun hH33 => ?_)
  clear hK K
  clear hH32
  clear hg33
  refine takeV 5 (.bool false) rfl (by kernel_rfl) (by kernel_rfl) (by kernel_rfl) (fun _ _ _ h => h) (by rfl) (fun w _ => exec_neq_same rfl (smad (a) (b) (0)) (smad (b) (a) (0)) rfl rfl (smad_lt _ _ _) (smad_lt _ _ _) (r_mcomm a b) w) hH33 ?_
  simp only [Act.put, List.setIfInBounds_toArray, List.set_cons_zero, List.set_cons_succ]
  refine takeV 6 (.bool false) rfl (by kernel_rfl) (by kernel_rfl) (by kernel_rfl) (fun _ _ _ h => h) (by rfl) (fun w _ => rfl) hH33 ?_
  simp only [Act.put, List.setIfInBounds_toArray, List.set_cons_zero, List.set_cons_succ]
  refine take32 7 (smad (a) (b) (0)) (w28.heap.size) rfl (by kernel_rfl) (by kernel_rfl) (by kernel_rfl) (fun _ _ _ h => h) (by rfl) rfl rfl (fun _ h => h.1 (w28.heap.size, smad (a) (b) (0)) (.tail _ (.head _))) hH33 ?_
  simp only [Act.put, List.setIfInBounds_toArray, List.set_cons_zero, List.set_cons_succ]
  refine take32 8 (c) (w.heap.size + 1 + 1) rfl (by kernel_rfl) (by kernel_rfl) (by kernel_rfl) (fun _ _ _ h => h) (by rfl) rfl rfl (fun _ h => h.1 (w.heap.size + 1 + 1, c) (.tail _ (.tail _ (.tail _ (.tail _ (.tail _ (.tail _ (.tail _ (.tail _ (.tail _ (.head _))))))))))) hH33 ?_
  simp only [Act.put, List.setIfInBounds_toArray, List.set_cons_zero, List.set_cons_succ]
  refine take32 9 (0) (w0.heap.size) rfl (by kernel_rfl) (by kernel_rfl) (by kernel_rfl) (fun _ _ _ h => h) (by rfl) rfl rfl (fun _ h => h.1 (w0.heap.size, 0) (.tail _ (.tail _ (.tail _ (.tail _ (.tail _ (.tail _ (.head _)))))))) hH33 ?_
  simp only [Act.put, List.setIfInBounds_toArray, List.set_cons_zero, List.set_cons_succ]
  refine take32 11 (a) (w.heap.size) rfl (by kernel_rfl) (by kernel_rfl) (by kernel_rfl) (fun _ _ _ h => h) (by rfl) rfl rfl (fun _ h => h.1 (w.heap.size, a) (.tail _ (.tail _ (.tail _ (.tail _ (.tail _ (.tail _ (.tail _ (.head _))))))))) hH33 ?_
  simp only [Act.put, List.setIfInBounds_toArray, List.set_cons_zero, List.set_cons_succ]
  refine take32 12 (smad (b) (c) (0)) (w30.heap.size) rfl (by kernel_rfl) (by kernel_rfl) (by kernel_rfl) (fun _ _ _ h => h) (by rfl) rfl rfl (fun _ h => h.1 (w30.heap.size, smad (b) (c) (0)) (.head _)) hH33 ?_
  simp only [Act.put, List.setIfInBounds_toArray, List.set_cons_zero, List.set_cons_succ]
  refine take32 13 (0) (w0.heap.size) rfl (by kernel_rfl) (by kernel_rfl) (by kernel_rfl) (fun _ _ _ h => h) (by rfl) rfl rfl (fun _ h => h.1 (w0.heap.size, 0) (.tail _ (.tail _ (.tail _ (.tail _ (.tail _ (.tail _ (.head _)))))))) hH33 ?_
  simp only [Act.put, List.setIfInBounds_toArray, List.set_cons_zero, List.set_cons_succ]
  refine step1 10 (by kernel_rfl) rfl (fun K hK => ?_)
  rw [if_pos (by rfl)]
  go_simp
  refine Calls.mono (MulAdd_num (smad (a) (b) (0)) (c) (0) (smad_lt _ _ _) hc (by decide) _ (hT.grown hH33.2)) ?_
  rintro e w34 ⟨rfl, hg34⟩
  dsimp only
  refine hK.out _ _ (keepE hH33 hg34) (fun hH34 => ?_)
  clear hK K
  clear hH33
  clear hg34
  refine step1 14 (by kernel_rfl) rfl (fun K hK => ?_)
  rw [if_pos (by rfl)]
  go_simp
  refine Calls.mono (MulAdd_num (a) (smad (b) (c) (0)) (0) ha (smad_lt _ _ _) (by decide) _ (hT.grown hH34.2)) ?_
  rintro e w35 ⟨rfl, hg35⟩
  dsimp only
  refine hK.out _ _ (keepE hH34 hg35) (fun hH35 => ?_)
  clear hK K
  clear hH34
  clear hg35
  refine takeV 15 (.bool false) rfl (by kernel_rfl) (by kernel_rfl) (by kernel_rfl) (fun _ _ _ h => h) (by rfl) (fun w _ => exec_neq_same rfl (smad (smad (a) (b) (0)) (c) (0)) (smad (a) (smad (b) (c) (0)) (0)) rfl rfl (smad_lt _ _ _) (smad_lt _ _ _) (r_massoc a b c) w) hH35 ?_
  simp only [Act.put, List.setIfInBounds_toArray, List.set_cons_zero, List.set_cons_succ]
  refine takeV 16 (.bool false) rfl (by kernel_rfl) (by kernel_rfl) (by kernel_rfl) (fun _ _ _ h => h) (by rfl) (fun w _ => rfl) hH35 ?_
  simp only [Act.put, List.setIfInBounds_toArray, List.set_cons_zero, List.set_cons_succ]
  refine wpAnyH_done (by kernel_rfl) ?_ _
  refine NoPanic.normal ?_
  obtain ⟨hE36, hW36⟩ := hH35
  repeat ((fail_if_success (with_reducible show Code.wp _ (Code.region _ _ _) _ _ _)); go_step)
  refine wp_region_noPanic ?_
  refine wp_region_held_drew (S := fun w' => Holds [(w30.heap.size, smad (b) (c) (0)), (w28.heap.size, smad (a) (b) (0)), (w14.heap.size, sadd (b) (c)), (w12.heap.size, sadd (a) (b)), (w7.heap.size, smad (2) (2) (2)), (w2.heap.size, 1), (w0.heap.size, 0), (w.heap.size, a), (w.heap.size + 1, b), (w.heap.size + 1 + 1, c)] w' ∧ Grown w w') (by kernel_rfl) ⟨hE36, hW36⟩ (fun hH37 => ?_)
  clear hE36 hW36
  refine take32 0 (a) (w.heap.size) rfl (by kernel_rfl) (by kernel_rfl) (by kernel_rfl) (fun _ _ _ h => h) (by rfl) rfl rfl (fun _ h => h.1 (w.heap.size, a) (.tail _ (.tail _ (.tail _ (.tail _ (.tail _ (.tail _ (.tail _ (.head _))))))))) hH37 ?_
  simp only [Act.put, List.setIfInBounds_toArray, List.set_cons_zero, List.set_cons_succ]
  refine take32 1 (1) (w2.heap.size) rfl (by kernel_rfl) (by kernel_rfl) (by kernel_rfl) (fun _ _ _ h => h) (by rfl) rfl rfl (fun _ h => h.1 (w2.heap.size, 1) (.tail _ (.tail _ (.tail _ (.tail _ (.tail _ (.head _))))))) hH37 ?_
  simp only [Act.put, List.setIfInBounds_toArray, List.set_cons_zero, List.set_cons_succ]
  refine take32 2 (0) (w0.heap.size) rfl (by kernel_rfl) (by kernel_rfl) (by kernel_rfl) (fun _ _ _ h => h) (by rfl) rfl rfl (fun _ h => h.1 (w0.heap.size, 0) (.tail _ (.tail _ (.tail _ (.tail _ (.tail _ (.tail _ (.head _)))))))) hH37 ?_
  simp only [Act.put, List.setIfInBounds_toArray, List.set_cons_zero, List.set_cons_succ]
  refine take32 4 (a) (w.heap.size) rfl (by kernel_rfl) (by kernel_rfl) (by kernel_rfl) (fun _ _ _ h => h) (by rfl) rfl rfl (fun _ h => h.1 (w.heap.size, a) (.tail _ (.tail _ (.tail _ (.tail _ (.tail _ (.tail _ (.tail _ (.head _))))))))) hH37 ?_
  simp only [Act.put, List.setIfInBounds_toArray, List.set_cons_zero, List.set_cons_succ]
  refine take32 5 (0) (w0.heap.size) rfl (by kernel_rfl) (by kernel_rfl) (by kernel_rfl) (fun _ _ _ h => h) (by rfl) rfl rfl (fun _ h => h.1 (w0.heap.size, 0) (.tail _ (.tail _ (.tail _ (.tail _ (.tail _ (.tail _ (.head _)))))))) hH37 ?_
  simp only [Act.put, List.setIfInBounds_toArray, List.set_cons_zero, List.set_cons_succ]
  refine step1 3 (by kernel_rfl) rfl (fun K hK => ?_)
  rw [if_pos (by rfl)]
  go_simp
  refine Calls.mono (MulAdd_num (a) (1) (0) ha (by decide) (by decide) _ (hT.grown hH37.2)) ?_
  rintro e w38 ⟨rfl, hg38⟩
  dsimp only
  refine hK.out _ _ (keepE hH37 hg38) (fun hH38 => ?_)
  clear hK K
  clear hH37
  clear hg38
  refine step1 6 (by kernel_rfl) rfl (fun K hK => ?_)
  rw [if_pos (by rfl)]
  go_simp
  refine Calls.mono (Add_num (a) (0) ha (by decide) _ (hT.grown hH38.2)) ?_
  rintro e w39 ⟨rfl, hg39⟩
  dsimp only
  refine hK.out _ _ (keepE hH38 hg39) (fun hH39 => ?_)
  clear hK K
  clear hH38
  clear hg39
  refine takeV 7 (.bool false) rfl (by kernel_rfl) (by kernel_rfl) (by kernel_rfl) (fun _ _ _ h => h) (by rfl) (fun w _ => exec_neq_same rfl (smad (a) (1) (0)) (sadd (a) (0)) rfl rfl (smad_lt _ _ _) (sadd_lt _ _) (r_one a) w) hH39 ?_
  simp only [Act.put, List.setIfInBounds_toArray, List.set_cons_zero, List.set_cons_succ]
  refine takeV 8 (.bool false) rfl (by kernel_rfl) (by kernel_rfl) (by kernel_rfl) (fun _ _ _ h => h) (by rfl) (fun w _ => rfl) hH39 ?_
  simp only [Act.put, List.setIfInBounds_toArray, List.set_cons_zero, List.set_cons_succ]
  refine take32 9 (a) (w.heap.size) rfl (by kernel_rfl) (by kernel_rfl) (by kernel_rfl) (fun _ _ _ h => h) (by rfl) rfl rfl (fun _ h => h.1 (w.heap.size, a) (.tail _ (.tail _ (.tail _ (.tail _ (.tail _ (.tail _ (.tail _ (.head _))))))))) hH39 ?_
  simp only [Act.put, List.setIfInBounds_toArray, List.set_cons_zero, List.set_cons_succ]
  refine take32 10 (0) (w0.heap.size) rfl (by kernel_rfl) (by kernel_rfl) (by kernel_rfl) (fun _ _ _ h => h) (by rfl) rfl rfl (fun _ h => h.1 (w0.heap.size, 0) (.tail _ (.tail _ (.tail _ (.tail _ (.tail _ (.tail _ (.head _)))))))) hH39 ?_
  simp only [Act.put, List.setIfInBounds_toArray, List.set_cons_zero, List.set_cons_succ]
  refine take32 11 (b) (w.heap.size + 1) rfl (by kernel_rfl) (by kernel_rfl) (by kernel_rfl) (fun _ _ _ h => h) (by rfl) rfl rfl (fun _ h => h.1 (w.heap.size + 1, b) (.tail _ (.tail _ (.tail _ (.tail _ (.tail _ (.tail _ (.tail _ (.tail _ (.head _)))))))))) hH39 ?_
  simp only [Act.put, List.setIfInBounds_toArray, List.set_cons_zero, List.set_cons_succ]
  refine take32 13 (b) (w.heap.size + 1) rfl (by kernel_rfl) (by kernel_rfl) (by kernel_rfl) (fun _ _ _ h => h) (by rfl) rfl rfl (fun _ h => h.1 (w.heap.size + 1, b) (.tail _ (.tail _ (.tail _ (.tail _ (.tail _ (.tail _ (.tail _ (.tail _ (.head _)))))))))) hH39 ?_
  simp only [Act.put, List.setIfInBounds_toArray, List.set_cons_zero, List.set_cons_succ]
  refine take32 14 (0) (w0.heap.size) rfl (by kernel_rfl) (by kernel_rfl) (by kernel_rfl) (fun _ _ _ h => h) (by rfl) rfl rfl (fun _ h => h.1 (w0.heap.size, 0) (.tail _ (.tail _ (.tail _ (.tail _ (.tail _ (.tail _ (.head _)))))))) hH39 ?_
  simp only [Act.put, List.setIfInBounds_toArray, List.set_cons_zero, List.set_cons_succ]
  refine step1 12 (by kernel_rfl) rfl (fun K hK => ?_)
  rw [if_pos (by rfl)]
  go_simp
  refine Calls.mono (MulAdd_num (a) (0) (b) ha (by decide) hb _ (hT.grown hH39.2)) ?_
  rintro e w40 ⟨rfl, hg40⟩
  dsimp only
  refine hK.out _ _ (keepE hH39 hg40) (fun hH40 => ?_)
  clear hK K
  clear hH39
  clear hg40
  refine step1 15 (by kernel_rfl) rfl (fun K hK => ?_)
  rw [if_pos (by rfl)]
  go_simp
  refine Calls.mono (Add_num (b) (0) hb (by decide) _ (hT.grown hH40.2)) ?_
  rintro e w41 ⟨rfl, hg41⟩
  dsimp only
  refine hK.out _ _ (keepE hH40 hg41) (fun hH41 => ?_)
  clear hK K
  clear hH40
  clear hg41
  refine takeV 16 (.bool false) rfl (by kernel_rfl) (by kernel_rfl) (by kernel_rfl) (fun _ _ _ h => h) (by rfl) (fun w _ => exec_neq_same rfl (smad (a) (0) (b)) (sadd (b) (0)) rfl rfl (smad_lt _ _ _) (sadd_lt _ _) (r_zero a b) w) hH41 ?_
  simp only [Act.put, List.setIfInBounds_toArray, List.set_cons_zero, List.set_cons_succ]
  refine takeV 17 (.bool false) rfl (by kernel_rfl) (by kernel_rfl) (by kernel_rfl) (fun _ _ _ h => h) (by rfl) (fun w _ => rfl) hH41 ?_
  simp only [Act.put, List.setIfInBounds_toArray, List.set_cons_zero, List.set_cons_succ]
  refine wpAnyH_done (by kernel_rfl) ?_ _
  refine NoPanic.normal ?_
  obtain ⟨hE42, hW42⟩ := hH41
  repeat ((fail_if_success (with_reducible show Code.wp _ (Code.region _ _ _) _ _ _)); go_step)
  apply wp_region_lit
  refine wpList_load32 rfl _ rfl _ rfl (a) (hE42 (w.heap.size, a) (.tail _ (.tail _ (.tail _ (.tail _ (.tail _ (.tail _ (.tail _ (.head _))))))))) ?_
  simp only [Act.put, List.setIfInBounds_toArray, List.set_cons_zero, List.set_cons_succ]
  refine wpList_load32 rfl _ rfl _ rfl (c) (hE42 (w.heap.size + 1 + 1, c) (.tail _ (.tail _ (.tail _ (.tail _ (.tail _ (.tail _ (.tail _ (.tail _ (.tail _ (.head _))))))))))) ?_
  simp only [Act.put, List.setIfInBounds_toArray, List.set_cons_zero, List.set_cons_succ]
  refine wpList_load32 rfl _ rfl _ rfl (0) (hE42 (w0.heap.size, 0) (.tail _ (.tail _ (.tail _ (.tail _ (.tail _ (.tail _ (.head _)))))))) ?_
  simp only [Act.put, List.setIfInBounds_toArray, List.set_cons_zero, List.set_cons_succ]
  go_wp2_with fail
  refine Calls.mono (MulAdd_num (a) (c) (0) ha hc (by decide) _ (hT.grown hW42)) ?_
  rintro e w43 ⟨rfl, hg43⟩
  dsimp only
  go_step
  have hE43 := hE42.grown hg43
  have hW43 := grown_trans hW42 hg43
  clear hE42 hW42 hg43
  go_wp2_with (with_reducible show wpList _ _ _ ({ dst := _, op := Op.store 23 _ _, type := _, pos := _, after := _, guard := _ } :: _) _ _; refine Shut.out ?_)
  show wpList _ _ _ _ _ _
  refine wpList_store_new (smad (a) (c) (0)) (by simp) rfl rfl rfl rfl (fun w44 hg44 hr44 _ => ?_)
  simp only [Act.put]
  have hE44 := (hE43.grown hg44).cons hr44
  have hW44 := grown_trans hW43 hg44
  clear hE43 hW43 hg44 hr44
  apply wpList_nil
  repeat ((fail_if_success (with_reducible show Code.wp _ (Code.region _ _ _) _ _ _)); go_step)
  refine wp_region_noPanic ?_
  refine wp_region_held_drew (S := fun w' => Holds [(w43.heap.size, smad (a) (c) (0)), (w30.heap.size, smad (b) (c) (0)), (w28.heap.size, smad (a) (b) (0)), (w14.heap.size, sadd (b) (c)), (w12.heap.size, sadd (a) (b)), (w7.heap.size, smad (2) (2) (2)), (w2.heap.size, 1), (w0.heap.size, 0), (w.heap.size, a), (w.heap.size + 1, b), (w.heap.size + 1 + 1, c)] w' ∧ Grown w w') (by kernel_rfl) ⟨hE44, hW44⟩ (fun hH45 => ?_)
  clear hE44 hW44
  refine take32 0 (a) (w.heap.size) rfl (by kernel_rfl) (by kernel_rfl) (by kernel_rfl) (fun _ _ _ h => h) (by rfl) rfl rfl (fun _ h => h.1 (w.heap.size, a) (.tail _ (.tail _ (.tail _ (.tail _ (.tail _ (.tail _ (.tail _ (.tail _ (.head _)))))))))) hH45 ?_
  simp only [Act.put, List.setIfInBounds_toArray, List.set_cons_zero, List.set_cons_succ]
  refine take32 1 (sadd (b) (c)) (w14.heap.size) rfl (by kernel_rfl) (by kernel_rfl) (by kernel_rfl) (fun _ _ _ h => h) (by rfl) rfl rfl (fun _ h => h.1 (w14.heap.size, sadd (b) (c)) (.tail _ (.tail _ (.tail _ (.head _))))) hH45 ?_
  simp only [Act.put, List.setIfInBounds_toArray, List.set_cons_zero, List.set_cons_succ]
  refine take32 2 (0) (w0.heap.size) rfl (by kernel_rfl) (by kernel_rfl) (by kernel_rfl) (fun _ _ _ h => h) (by rfl) rfl rfl (fun _ h => h.1 (w0.heap.size, 0) (.tail _ (.tail _ (.tail _ (.tail _ (.tail _ (.tail _ (.tail _ (.head _))))))))) hH45 ?_
  simp only [Act.put, List.setIfInBounds_toArray, List.set_cons_zero, List.set_cons_succ]
  refine take32 4 (smad (a) (b) (0)) (w28.heap.size) rfl (by kernel_rfl) (by kernel_rfl) (by kernel_rfl) (fun _ _ _ h => h) (by rfl) rfl rfl (fun _ h => h.1 (w28.heap.size, smad (a) (b) (0)) (.tail _ (.tail _ (.head _)))) hH45 ?_
  simp only [Act.put, List.setIfInBounds_toArray, List.set_cons_zero, List.set_cons_succ]
  refine take32 5 (smad (a) (c) (0)) (w43.heap.size) rfl (by kernel_rfl) (by kernel_rfl) (by kernel_rfl) (fun _ _ _ h => h) (by rfl) rfl rfl (fun _ h => h.1 (w43.heap.size, smad (a) (c) (0)) (.head _)) hH45 ?_
  simp only [Act.put, List.setIfInBounds_toArray, List.set_cons_zero, List.set_cons_succ]
  refine step1 3 (by kernel_rfl) rfl (fun K hK => ?_)
  rw [if_pos (by rfl)]
  go_simp
  refine Calls.mono (MulAdd_num (a) (sadd (b) (c)) (0) ha (sadd_lt _ _) (by decide) _ (hT.grown hH45.2)) ?_
  rintro e w46 ⟨rfl, hg46⟩
  dsimp only
  refine hK.out _ _ (keepE hH45 hg46) (fun hH46 => ?_)
  clear hK K
  clear hH45
  clear hg46
  refine step1 6 (by kernel_rfl) rfl (fun K hK => ?_)
  rw [if_pos (by rfl)]
  go_simp
  refine Calls.mono (Add_num (smad (a) (b) (0)) (smad (a) (c) (0)) (smad_lt _ _ _) (smad_lt _ _ _) _ (hT.grown hH46.2)) ?_
  rintro e w47 ⟨rfl, hg47⟩
  dsimp only
  refine hK.out _ _ (keepE hH46 hg47) (fun hH47 => ?_)
  clear hK K
  clear hH46
  clear hg47
  refine takeV 7 (.bool true) rfl (by kernel_rfl) (by kernel_rfl) (by kernel_rfl) (fun _ _ _ h => h) (by rfl) (fun w _ => exec_eql_same rfl (smad (a) (sadd (b) (c)) (0)) (sadd (smad (a) (b) (0)) (smad (a) (c) (0))) rfl rfl (smad_lt _ _ _) (sadd_lt _ _) (r_dist a b c) w) hH47 ?_
  simp only [Act.put, List.setIfInBounds_toArray, List.set_cons_zero, List.set_cons_succ]
  refine takeV 8 (.bool true) rfl (by kernel_rfl) (by kernel_rfl) (by kernel_rfl) (fun _ _ _ h => h) (by rfl) (fun w _ => rfl) hH47 ?_
  simp only [Act.put, List.setIfInBounds_toArray, List.set_cons_zero, List.set_cons_succ]
  refine take32 9 (a) (w.heap.size) rfl (by kernel_rfl) (by kernel_rfl) (by kernel_rfl) (fun _ _ _ h => h) (by rfl) rfl rfl (fun _ h => h.1 (w.heap.size, a) (.tail _ (.tail _ (.tail _ (.tail _ (.tail _ (.tail _ (.tail _ (.tail _ (.head _)))))))))) hH47 ?_
  simp only [Act.put, List.setIfInBounds_toArray, List.set_cons_zero, List.set_cons_succ]
  refine take32 10 (b) (w.heap.size + 1) rfl (by kernel_rfl) (by kernel_rfl) (by kernel_rfl) (fun _ _ _ h => h) (by rfl) rfl rfl (fun _ h => h.1 (w.heap.size + 1, b) (.tail _ (.tail _ (.tail _ (.tail _ (.tail _ (.tail _ (.tail _ (.tail _ (.tail _ (.head _))))))))))) hH47 ?_
  simp only [Act.put, List.setIfInBounds_toArray, List.set_cons_zero, List.set_cons_succ]
  refine take32 11 (c) (w.heap.size + 1 + 1) rfl (by kernel_rfl) (by kernel_rfl) (by kernel_rfl) (fun _ _ _ h => h) (by rfl) rfl rfl (fun _ h => h.1 (w.heap.size + 1 + 1, c) (.tail _ (.tail _ (.tail _ (.tail _ (.tail _ (.tail _ (.tail _ (.tail _ (.tail _ (.tail _ (.head _)))))))))))) hH47 ?_
  simp only [Act.put, List.setIfInBounds_toArray, List.set_cons_zero, List.set_cons_succ]
  refine take32 13 (smad (a) (b) (0)) (w28.heap.size) rfl (by kernel_rfl) (by kernel_rfl) (by kernel_rfl) (fun _ _ _ h => h) (by rfl) rfl rfl (fun _ h => h.1 (w28.heap.size, smad (a) (b) (0)) (.tail _ (.tail _ (.head _)))) hH47 ?_
  simp only [Act.put, List.setIfInBounds_toArray, List.set_cons_zero, List.set_cons_succ]
  refine take32 14 (c) (w.heap.size + 1 + 1) rfl (by kernel_rfl) (by kernel_rfl) (by kernel_rfl) (fun _ _ _ h => h) (by rfl) rfl rfl (fun _ h => h.1 (w.heap.size + 1 + 1, c) (.tail _ (.tail _ (.tail _ (.tail _ (.tail _ (.tail _ (.tail _ (.tail _ (.tail _ (.tail _ (.head _)))))))))))) hH47 ?_
  simp only [Act.put, List.setIfInBounds_toArray, List.set_cons_zero, List.set_cons_succ]
  refine step1 12 (by kernel_rfl) rfl (fun K hK => ?_)
  rw [if_pos (by rfl)]
  go_simp
  refine Calls.mono (MulAdd_num (a) (b) (c) ha hb hc _ (hT.grown hH47.2)) ?_
  rintro e w48 ⟨rfl, hg48⟩
  dsimp only
  refine hK.out _ _ (keepE hH47 hg48) (fun hH48 => ?_)
  clear hK K
  clear hH47
  clear hg48
  refine step1 15 (by kernel_rfl) rfl (fun K hK => ?_)
  rw [if_pos (by rfl)]
  go_simp
  refine Calls.mono (Add_num (smad (a) (b) (0)) (c) (smad_lt _ _ _) hc _ (hT.grown hH48.2)) ?_
  rintro e w49 ⟨rfl, hg49⟩
  dsimp only
  refine hK.out _ _ (keepE hH48 hg49) (fun hH49 => ?_)
  clear hK K
  clear hH48
  clear hg49
  refine takeV 16 (.bool true) rfl (by kernel_rfl) (by kernel_rfl) (by kernel_rfl) (fun _ _ _ h => h) (by rfl) (fun w _ => exec_eql_same rfl (smad (a) (b) (c)) (sadd (smad (a) (b) (0)) (c)) rfl rfl (smad_lt _ _ _) (sadd_lt _ _) (r_mad a b c) w) hH49 ?_
  simp only [Act.put, List.setIfInBounds_toArray, List.set_cons_zero, List.set_cons_succ]
  refine takeV 17 (.bool true) rfl (by kernel_rfl) (by kernel_rfl) (by kernel_rfl) (fun _ _ _ h => h) (by rfl) (fun w _ => rfl) hH49 ?_
  simp only [Act.put, List.setIfInBounds_toArray, List.set_cons_zero, List.set_cons_succ]
  refine takeV 18 (.bool true) rfl (by kernel_rfl) (by kernel_rfl) (by kernel_rfl) (fun _ _ _ h => h) (by rfl) (fun w _ => rfl) hH49 ?_
  simp only [Act.put, List.setIfInBounds_toArray, List.set_cons_zero, List.set_cons_succ]
  refine take32 19 (a) (w.heap.size) rfl (by kernel_rfl) (by kernel_rfl) (by kernel_rfl) (fun _ _ _ h => h) (by rfl) rfl rfl (fun _ h => h.1 (w.heap.size, a) (.tail _ (.tail _ (.tail _ (.tail _ (.tail _ (.tail _ (.tail _ (.tail _ (.head _)))))))))) hH49 ?_
  simp only [Act.put, List.setIfInBounds_toArray, List.set_cons_zero, List.set_cons_succ]
  refine take32 21 (b) (w.heap.size + 1) rfl (by kernel_rfl) (by kernel_rfl) (by kernel_rfl) (fun _ _ _ h => h) (by rfl) rfl rfl (fun _ h => h.1 (w.heap.size + 1, b) (.tail _ (.tail _ (.tail _ (.tail _ (.tail _ (.tail _ (.tail _ (.tail _ (.tail _ (.head _))))))))))) hH49 ?_
  simp only [Act.put, List.setIfInBounds_toArray, List.set_cons_zero, List.set_cons_succ]
  refine take32 22 (smad (a) (b) (0)) (w28.heap.size) rfl (by kernel_rfl) (by kernel_rfl) (by kernel_rfl) (fun _ _ _ h => h) (by rfl) rfl rfl (fun _ h => h.1 (w28.heap.size, smad (a) (b) (0)) (.tail _ (.tail _ (.head _)))) hH49 ?_
  simp only [Act.put, List.setIfInBounds_toArray, List.set_cons_zero, List.set_cons_succ]
  refine take32 24 (0) (w0.heap.size) rfl (by kernel_rfl) (by kernel_rfl) (by kernel_rfl) (fun _ _ _ h => h) (by rfl) rfl rfl (fun _ h => h.1 (w0.heap.size, 0) (.tail _ (.tail _ (.tail _ (.tail _ (.tail _ (.tail _ (.tail _ (.head _))))))))) hH49 ?_
  simp only [Act.put, List.setIfInBounds_toArray, List.set_cons_zero, List.set_cons_succ]
  refine step1 20 (by kernel_rfl) rfl (fun K hK => ?_)
  rw [if_pos (by rfl)]
  go_simp
  refine Calls.mono (Neg_num (a) ha _ (hT.grown hH49.2)) ?_
  rintro e w50 ⟨rfl, hg50⟩
  dsimp only
  refine hK.out _ _ (keepE hH49 hg50) (fun hH50 => ?_)
  clear hK K
  clear hH49
  clear hg50
  refine step1 23 (by kernel_rfl) rfl (fun K hK => ?_)
  rw [if_pos (by rfl)]
  go_simp
  refine Calls.mono (MulAdd_num (sneg (a)) (b) (smad (a) (b) (0)) (sneg_lt _) hb (smad_lt _ _ _) _ (hT.grown hH50.2)) ?_
  rintro e w51 ⟨rfl, hg51⟩
  dsimp only
  refine hK.out _ _ (keepE hH50 hg51) (fun hH51 => ?_)
  clear hK K
  clear hH50
  clear hg51
  refine takeV 25 (.bool true) rfl (by kernel_rfl) (by kernel_rfl) (by kernel_rfl) (fun _ _ _ h => h) (by rfl) (fun w _ => exec_eql_same rfl (smad (sneg (a)) (b) (smad (a) (b) (0))) (0) rfl rfl (smad_lt _ _ _) (by decide) (r_negmul a b) w) hH51 ?_
  simp only [Act.put, List.setIfInBounds_toArray, List.set_cons_zero, List.set_cons_succ]
  refine takeV 26 (.bool true) rfl (by kernel_rfl) (by kernel_rfl) (by kernel_rfl) (fun _ _ _ h => h) (by rfl) (fun w _ => rfl) hH51 ?_
  simp only [Act.put, List.setIfInBounds_toArray, List.set_cons_zero, List.set_cons_succ]
  refine takeV 27 (.bool true) rfl (by kernel_rfl) (by kernel_rfl) (by kernel_rfl) (fun _ _ _ h => h) (by rfl) (fun w _ => rfl) hH51 ?_
  simp only [Act.put, List.setIfInBounds_toArray, List.set_cons_zero, List.set_cons_succ]
  refine wpAnyH_done (by kernel_rfl) ?_ _
  refine NoPanic.normal ?_
  obtain ⟨hE52, hW52⟩ := hH51
  repeat go_step
  go_ret
  exact ⟨rfl, by first | assumption | exact hW52⟩
end Go.Proofs.YteijccjdejjbjaaDoor
