import Derived.Test.YteijccjdejjbjaaDoorCu
namespace Go.Proofs.YteijccjdejjbjaaDoor
open Go.RowKit Go.Shelf ScalarNum

theorem mul_sinv0 {a : Nat} (h : ¬ sred a = 0) : a * sinv a % L = 1 := by
  unfold sinv
  unfold sred at h
  rw [Nat.mul_mod_mod, Nat.mul_comm, ← Nat.pow_succ, show (L - 2).succ = L - 1 from by decide]
  exact fermat pr_L (fun hd => h (Nat.dvd_iff_mod_eq_zero.1 hd))
theorem mul_sinv {a : Nat} (h : ¬ sred a = 0) : smad a (sinv a) 0 = 1 := by
  unfold smad; rw [Nat.add_zero]; exact mul_sinv0 h
theorem sinv_zero {a : Nat} (h : sred a = 0) : sinv a = 0 := by
  unfold sinv
  unfold sred at h
  rw [Nat.pow_mod, h, Nat.zero_pow (by decide), Nat.zero_mod]
theorem sinv_ne {a : Nat} (h : ¬ sred a = 0) : ¬ sred (sinv a) = 0 := by
  intro h0
  have h1 := mul_sinv0 h
  unfold sred at h0
  rw [← Nat.mul_mod_mod, h0, Nat.mul_zero, Nat.zero_mod] at h1
  exact absurd h1 (by decide)
theorem sinv_sinv {a : Nat} (h : ¬ sred a = 0) : sinv (sinv a) = sred a := by
  have h1 := mul_sinv0 h
  have h2 := mul_sinv0 (sinv_ne h)
  have h3 : ¬ L ∣ sinv a := fun hd => sinv_ne h (Nat.dvd_iff_mod_eq_zero.1 hd)
  have h4 := pr_L.cancel (a := sinv (sinv a)) (b := a) h3 (by rw [h1, Nat.mul_comm, h2])
  rw [Nat.mod_eq_of_lt (sinv_ltL _)] at h4
  exact h4
theorem half_two (t : Nat) (ht : t = 2) : sadd (sinv t) (sinv t) = 1 := by
  have h := mul_sinv0 (a := t) (by rw [ht]; decide)
  unfold sadd
  rw [← h]
  generalize sinv t = y
  rw [ht]
  congr 1
  omega

set_option maxRecDepth 100000 in
set_option maxHeartbeats 4000000 in
theorem inverts_walk0 (a t : Nat) (ha : a < M) (ht : Hid (t = 2)) (htM : t < M) (hhalf : Hid (sadd (sinv t) (sinv t) = 1)) (h0 : Hid (sred a = 0)) (w : World) (hT : Tab w) :
    Calls Tryd.prog 11 #[yv 32 a] w fun e w' => e = .returned (.bool true) ∧ Grown w w' := by
  rw [yv]
  go_enter Tryd.func11, Tryd.ntmps11
  go_wp2_with (with_reducible show wpList _ _ _ ({ dst := _, op := Op.load 23 _, type := _, pos := _, after := _, guard := _ } :: _) _ _; refine Shut.out ?_)
  show wpList _ _ _ _ _ _
  obtain ⟨hE0, hW0⟩ := params1 w a
  generalize (w.alloc (Obj.cells (yl 32 a).toArray 23)) = W0 at hE0 hW0 ⊢
  refine wpList_load32 rfl _ rfl _ rfl (a) (hE0 (w.heap.size, a) (.head _)) ?_
  simp only [Act.put, List.setIfInBounds_toArray, List.set_cons_zero, List.set_cons_succ]
  go_wp2_with fail
  refine Calls.mono (Invert_num (a) ha _ (hT.grown hW0)) ?_
  rintro e w1 ⟨rfl, hg1⟩
  dsimp only
  go_step
  have hE1 := hE0.grown hg1
  have hW1 := grown_trans hW0 hg1
  clear hE0 hW0 hg1
  go_wp2_with (with_reducible show wpList _ _ _ ({ dst := _, op := Op.store 23 _ _, type := _, pos := _, after := _, guard := _ } :: _) _ _; refine Shut.out ?_)
  show wpList _ _ _ _ _ _
  refine wpList_store_new (sinv (a)) (by simp) rfl rfl rfl rfl (fun w2 hg2 hr2 _ => ?_)
  simp only [Act.put]
  have hE2 := (hE1.grown hg2).cons hr2
  have hW2 := grown_trans hW1 hg2
  clear hE1 hW1 hg2 hr2
  apply wpList_nil
  repeat ((fail_if_success (with_reducible show Code.wp _ (Code.region _ _ _) _ _ _)); go_step)
  apply wp_region_lit
  refine wpList_load32 rfl _ rfl _ rfl (a) (hE2 (w.heap.size, a) (.tail _ (.head _))) ?_
  simp only [Act.put, List.setIfInBounds_toArray, List.set_cons_zero, List.set_cons_succ]
  go_wp2_with fail
  refine Calls.mono (cut_num (a) ha _ (hT.grown hW2)) ?_
  rintro e w3 ⟨rfl, hg3⟩
  dsimp only
  go_step
  have hE3 := hE2.grown hg3
  have hW3 := grown_trans hW2 hg3
  clear hE2 hW2 hg3
  go_wp2_with (with_reducible show wpList _ _ _ ({ dst := _, op := Op.store 23 _ _, type := _, pos := _, after := _, guard := _ } :: _) _ _; refine Shut.out ?_)
  show wpList _ _ _ _ _ _
  refine wpList_store_new (sred (a)) (by simp) rfl rfl rfl rfl (fun w4 hg4 hr4 _ => ?_)
  simp only [Act.put]
  have hE4 := (hE3.grown hg4).cons hr4
  have hW4 := grown_trans hW3 hg4
  clear hE3 hW3 hg4 hr4
  apply wpList_nil
  repeat ((fail_if_success (with_reducible show Code.wp _ (Code.region _ _ _) _ _ _)); go_step)
  apply wp_region_lit
  go_wp2_with fail
  refine Calls.mono (number_nat t (by rw [ht.out]; decide) 2 (by rw [ht.out]; rfl) _) ?_
  rintro e w5 ⟨rfl, hg5⟩
  dsimp only
  go_step
  have hE5 := hE4.grown hg5
  have hW5 := grown_trans hW4 hg5
  clear hE4 hW4 hg5
  go_wp2_with fail
  refine Calls.mono (Invert_num (t) htM _ (hT.grown hW5)) ?_
  rintro e w6 ⟨rfl, hg6⟩
  dsimp only
  go_step
  have hE6 := hE5.grown hg6
  have hW6 := grown_trans hW5 hg6
  clear hE5 hW5 hg6
  go_wp2_with (with_reducible show wpList _ _ _ ({ dst := _, op := Op.store 23 _ _, type := _, pos := _, after := _, guard := _ } :: _) _ _; refine Shut.out ?_)
  show wpList _ _ _ _ _ _
  refine wpList_store_new (sinv (t)) (by simp) rfl rfl rfl rfl (fun w7 hg7 hr7 _ => ?_)
  simp only [Act.put]
  have hE7 := (hE6.grown hg7).cons hr7
  have hW7 := grown_trans hW6 hg7
  clear hE6 hW6 hg7 hr7
  apply wpList_nil
  repeat ((fail_if_success (with_reducible show Code.wp _ (Code.region _ _ _) _ _ _)); go_step)
  refine wp_region_noPanic ?_
  refine wp_region_held_drew (S := fun w' => Holds [(w6.heap.size, sinv (t)), (w3.heap.size, sred (a)), (w1.heap.size, sinv (a)), (w.heap.size, a)] w' ∧ Grown w w') (by kernel_rfl) ⟨hE7, hW7⟩ (fun hH8 => ?_)
  clear hE7 hW7
  refine take32 0 (sinv (t)) (w6.heap.size) rfl (by kernel_rfl) (by kernel_rfl) (by kernel_rfl) (fun _ _ _ h => h) (by rfl) rfl rfl (fun _ h => h.1 (w6.heap.size, sinv (t)) (.head _)) hH8 ?_
  simp only [Act.put, List.setIfInBounds_toArray, List.set_cons_zero, List.set_cons_succ]
  refine take32 1 (sinv (t)) (w6.heap.size) rfl (by kernel_rfl) (by kernel_rfl) (by kernel_rfl) (fun _ _ _ h => h) (by rfl) rfl rfl (fun _ h => h.1 (w6.heap.size, sinv (t)) (.head _)) hH8 ?_
  simp only [Act.put, List.setIfInBounds_toArray, List.set_cons_zero, List.set_cons_succ]
  refine step1 2 (by kernel_rfl) rfl (fun K hK => ?_)
  rw [if_pos (by rfl)]
  go_simp
  refine Calls.mono (Add_num (sinv (t)) (sinv (t)) (sinv_lt _) (sinv_lt _) _ (hT.grown hH8.2)) ?_
  rintro e w9 ⟨rfl, hg9⟩
  dsimp only
  refine hK.out _ _ (keepE hH8 hg9) (fun hH9 => ?_)
  clear hK K
  clear hH8
  clear hg9
  refine step1 3 (by kernel_rfl) rfl (fun K hK => ?_)
  rw [if_pos (by rfl)]
  go_simp
  refine Calls.mono (number_nat 1 (by decide) 1 rfl _) ?_
  rintro e w10 ⟨rfl, hg10⟩
  dsimp only
  refine hK.out _ _ (keepE hH9 hg10) (fun hH10 => ?_)
  clear hK K
  clear hH9
  clear hg10
  refine takeV 4 (.bool false) rfl (by kernel_rfl) (by kernel_rfl) (by kernel_rfl) (fun _ _ _ h => h) (by rfl) (fun w _ => exec_neq_same rfl (sadd (sinv (t)) (sinv (t))) (1) rfl rfl (sadd_lt _ _) (by decide) (hhalf.out) w) hH10 ?_
  simp only [Act.put, List.setIfInBounds_toArray, List.set_cons_zero, List.set_cons_succ]
  refine takeV 5 (.bool false) rfl (by kernel_rfl) (by kernel_rfl) (by kernel_rfl) (fun _ _ _ h => h) (by rfl) (fun w _ => rfl) hH10 ?_
  simp only [Act.put, List.setIfInBounds_toArray, List.set_cons_zero, List.set_cons_succ]
  refine take32 6 (sinv (a)) (w1.heap.size) rfl (by kernel_rfl) (by kernel_rfl) (by kernel_rfl) (fun _ _ _ h => h) (by rfl) rfl rfl (fun _ h => h.1 (w1.heap.size, sinv (a)) (.tail _ (.tail _ (.head _)))) hH10 ?_
  simp only [Act.put, List.setIfInBounds_toArray, List.set_cons_zero, List.set_cons_succ]
  refine step1 7 (by kernel_rfl) rfl (fun K hK => ?_)
  rw [if_pos (by rfl)]
  go_simp
  refine Calls.mono (Order_num _ (hT.grown hH10.2)) ?_
  rintro e w11 ⟨rfl, hg11⟩
  dsimp only
  refine hK.out _ _ (keepE hH10 hg11) (fun hH11 => ?_)
  clear hK K
  clear hH10
  clear hg11
  refine step1 8 (by kernel_rfl) rfl (fun K hK => ?_)
  rw [if_pos (by rfl)]
  go_simp
  refine Calls.mono (less_is (sinv (a)) (L) (sinv_lt _) L_lt_M true (decide_eq_true (sinv_ltL a)) _) ?_
  rintro e w12 ⟨rfl, hg12⟩
  dsimp only
  refine hK.out _ _ (keepE hH11 hg12) (fun hH12 => ?_)
  clear hK K
  clear hH11
  clear hg12
  refine takeV 9 (.bool false) rfl (by kernel_rfl) (by kernel_rfl) (by kernel_rfl) (fun _ _ _ h => h) (by rfl) (fun w _ => by first | rfl | go_simp) hH12 ?_
  simp only [Act.put, List.setIfInBounds_toArray, List.set_cons_zero, List.set_cons_succ]
  refine takeV 10 (.bool false) rfl (by kernel_rfl) (by kernel_rfl) (by kernel_rfl) (fun _ _ _ h => h) (by rfl) (fun w _ => rfl) hH12 ?_
  simp only [Act.put, List.setIfInBounds_toArray, List.set_cons_zero, List.set_cons_succ]
  refine wpAnyH_done (by kernel_rfl) ?_ _
  refine NoPanic.normal ?_
  obtain ⟨hE13, hW13⟩ := hH12
  repeat ((fail_if_success (with_reducible show Code.wp _ (Code.region _ _ _) _ _ _)); go_step)
  refine wp_region_noPanic ?_
  refine wp_region_held_drew (S := fun w' => Holds [(w6.heap.size, sinv (t)), (w3.heap.size, sred (a)), (w1.heap.size, sinv (a)), (w.heap.size, a)] w' ∧ Grown w w') (by kernel_rfl) ⟨hE13, hW13⟩ (fun hH14 => ?_)
  clear hE13 hW13
  refine take32 0 (sred (a)) (w3.heap.size) rfl (by kernel_rfl) (by kernel_rfl) (by kernel_rfl) (fun _ _ _ h => h) (by rfl) rfl rfl (fun _ h => h.1 (w3.heap.size, sred (a)) (.tail _ (.head _))) hH14 ?_
  simp only [Act.put, List.setIfInBounds_toArray, List.set_cons_zero, List.set_cons_succ]
  refine step1 1 (by kernel_rfl) rfl (fun K hK => ?_)
  rw [if_pos (by rfl)]
  go_simp
  refine Calls.mono (number_nat 0 (by decide) 0 rfl _) ?_
  rintro e w15 ⟨rfl, hg15⟩
  dsimp only
  refine hK.out _ _ (keepE hH14 hg15) (fun hH15 => ?_)
  clear hK K
  clear hH14
  clear hg15
  refine takeV 2 (.bool true) rfl (by kernel_rfl) (by kernel_rfl) (by kernel_rfl) (fun _ _ _ h => h) (by rfl) (fun w _ => exec_eql_same rfl (sred (a)) (0) rfl rfl (sred_lt _) (by decide) (h0.out) w) hH15 ?_
  simp only [Act.put, List.setIfInBounds_toArray, List.set_cons_zero, List.set_cons_succ]
  refine wpAnyH_done (by kernel_rfl) ?_ _
  refine NoPanic.normal ?_
  obtain ⟨hE16, hW16⟩ := hH15
  repeat ((fail_if_success (with_reducible show Code.wp _ (Code.region _ _ _) _ _ _)); go_step)
  refine wp_region_noPanic ?_
  refine wp_region_held_drew (S := fun w' => Holds [(w6.heap.size, sinv (t)), (w3.heap.size, sred (a)), (w1.heap.size, sinv (a)), (w.heap.size, a)] w' ∧ Grown w w') (by kernel_rfl) ⟨hE16, hW16⟩ (fun hH17 => ?_)
  clear hE16 hW16
  refine take32 0 (sinv (a)) (w1.heap.size) rfl (by kernel_rfl) (by kernel_rfl) (by kernel_rfl) (fun _ _ _ h => h) (by rfl) rfl rfl (fun _ h => h.1 (w1.heap.size, sinv (a)) (.tail _ (.tail _ (.head _)))) hH17 ?_
  simp only [Act.put, List.setIfInBounds_toArray, List.set_cons_zero, List.set_cons_succ]
  refine step1 1 (by kernel_rfl) rfl (fun K hK => ?_)
  rw [if_pos (by rfl)]
  go_simp
  refine Calls.mono (number_nat 0 (by decide) 0 rfl _) ?_
  rintro e w18 ⟨rfl, hg18⟩
  dsimp only
  refine hK.out _ _ (keepE hH17 hg18) (fun hH18 => ?_)
  clear hK K
  clear hH17
  clear hg18
  refine takeV 2 (.bool true) rfl (by kernel_rfl) (by kernel_rfl) (by kernel_rfl) (fun _ _ _ h => h) (by rfl) (fun w _ => exec_eql_same rfl (sinv (a)) (0) rfl rfl (sinv_lt _) (by decide) (sinv_zero h0.out) w) hH18 ?_
  simp only [Act.put, List.setIfInBounds_toArray, List.set_cons_zero, List.set_cons_succ]
  refine takeV 3 (.bool true) rfl (by kernel_rfl) (by kernel_rfl) (by kernel_rfl) (fun _ _ _ h => h) (by rfl) (fun w _ => rfl) hH18 ?_
  simp only [Act.put, List.setIfInBounds_toArray, List.set_cons_zero, List.set_cons_succ]
  refine wpAnyH_done (by kernel_rfl) ?_ _
  refine NoPanic.normal ?_
  obtain ⟨hE19, hW19⟩ := hH18
  repeat go_step
  go_ret
  exact ⟨rfl, by first | assumption | exact hW19⟩

set_option maxRecDepth 100000 in
set_option maxHeartbeats 4000000 in
theorem inverts_walk1 (a t : Nat) (ha : a < M) (ht : Hid (t = 2)) (htM : t < M) (hhalf : Hid (sadd (sinv t) (sinv t) = 1)) (h0 : Hid (¬ sred a = 0)) (w : World) (hT : Tab w) :
    Calls Tryd.prog 11 #[yv 32 a] w fun e w' => e = .returned (.bool true) ∧ Grown w w' := by
  rw [yv]
  go_enter Tryd.func11, Tryd.ntmps11
  go_wp2_with (with_reducible show wpList _ _ _ ({ dst := _, op := Op.load 23 _, type := _, pos := _, after := _, guard := _ } :: _) _ _; refine Shut.out ?_)
  show wpList _ _ _ _ _ _
  obtain ⟨hE0, hW0⟩ := params1 w a
  generalize (w.alloc (Obj.cells (yl 32 a).toArray 23)) = W0 at hE0 hW0 ⊢
  refine wpList_load32 rfl _ rfl _ rfl (a) (hE0 (w.heap.size, a) (.head _)) ?_
  simp only [Act.put, List.setIfInBounds_toArray, List.set_cons_zero, List.set_cons_succ]
  go_wp2_with fail
  refine Calls.mono (Invert_num (a) ha _ (hT.grown hW0)) ?_
  rintro e w1 ⟨rfl, hg1⟩
  dsimp only
  go_step
  have hE1 := hE0.grown hg1
  have hW1 := grown_trans hW0 hg1
  clear hE0 hW0 hg1
  go_wp2_with (with_reducible show wpList _ _ _ ({ dst := _, op := Op.store 23 _ _, type := _, pos := _, after := _, guard := _ } :: _) _ _; refine Shut.out ?_)
  show wpList _ _ _ _ _ _
  refine wpList_store_new (sinv (a)) (by simp) rfl rfl rfl rfl (fun w2 hg2 hr2 _ => ?_)
  simp only [Act.put]
  have hE2 := (hE1.grown hg2).cons hr2
  have hW2 := grown_trans hW1 hg2
  clear hE1 hW1 hg2 hr2
  apply wpList_nil
  repeat ((fail_if_success (with_reducible show Code.wp _ (Code.region _ _ _) _ _ _)); go_step)
  apply wp_region_lit
  refine wpList_load32 rfl _ rfl _ rfl (a) (hE2 (w.heap.size, a) (.tail _ (.head _))) ?_
  simp only [Act.put, List.setIfInBounds_toArray, List.set_cons_zero, List.set_cons_succ]
  go_wp2_with fail
  refine Calls.mono (cut_num (a) ha _ (hT.grown hW2)) ?_
  rintro e w3 ⟨rfl, hg3⟩
  dsimp only
  go_step
  have hE3 := hE2.grown hg3
  have hW3 := grown_trans hW2 hg3
  clear hE2 hW2 hg3
  go_wp2_with (with_reducible show wpList _ _ _ ({ dst := _, op := Op.store 23 _ _, type := _, pos := _, after := _, guard := _ } :: _) _ _; refine Shut.out ?_)
  show wpList _ _ _ _ _ _
  refine wpList_store_new (sred (a)) (by simp) rfl rfl rfl rfl (fun w4 hg4 hr4 _ => ?_)
  simp only [Act.put]
  have hE4 := (hE3.grown hg4).cons hr4
  have hW4 := grown_trans hW3 hg4
  clear hE3 hW3 hg4 hr4
  apply wpList_nil
  repeat ((fail_if_success (with_reducible show Code.wp _ (Code.region _ _ _) _ _ _)); go_step)
  apply wp_region_lit
  go_wp2_with fail
  refine Calls.mono (number_nat t (by rw [ht.out]; decide) 2 (by rw [ht.out]; rfl) _) ?_
  rintro e w5 ⟨rfl, hg5⟩
  dsimp only
  go_step
  have hE5 := hE4.grown hg5
  have hW5 := grown_trans hW4 hg5
  clear hE4 hW4 hg5
  go_wp2_with fail
  refine Calls.mono (Invert_num (t) htM _ (hT.grown hW5)) ?_
  rintro e w6 ⟨rfl, hg6⟩
  dsimp only
  go_step
  have hE6 := hE5.grown hg6
  have hW6 := grown_trans hW5 hg6
  clear hE5 hW5 hg6
  go_wp2_with (with_reducible show wpList _ _ _ ({ dst := _, op := Op.store 23 _ _, type := _, pos := _, after := _, guard := _ } :: _) _ _; refine Shut.out ?_)
  show wpList _ _ _ _ _ _
  refine wpList_store_new (sinv (t)) (by simp) rfl rfl rfl rfl (fun w7 hg7 hr7 _ => ?_)
  simp only [Act.put]
  have hE7 := (hE6.grown hg7).cons hr7
  have hW7 := grown_trans hW6 hg7
  clear hE6 hW6 hg7 hr7
  apply wpList_nil
  repeat ((fail_if_success (with_reducible show Code.wp _ (Code.region _ _ _) _ _ _)); go_step)
  refine wp_region_noPanic ?_
  refine wp_region_held_drew (S := fun w' => Holds [(w6.heap.size, sinv (t)), (w3.heap.size, sred (a)), (w1.heap.size, sinv (a)), (w.heap.size, a)] w' ∧ Grown w w') (by kernel_rfl) ⟨hE7, hW7⟩ (fun hH8 => ?_)
  clear hE7 hW7
  refine take32 0 (sinv (t)) (w6.heap.size) rfl (by kernel_rfl) (by kernel_rfl) (by kernel_rfl) (fun _ _ _ h => h) (by rfl) rfl rfl (fun _ h => h.1 (w6.heap.size, sinv (t)) (.head _)) hH8 ?_
  simp only [Act.put, List.setIfInBounds_toArray, List.set_cons_zero, List.set_cons_succ]
  refine take32 1 (sinv (t)) (w6.heap.size) rfl (by kernel_rfl) (by kernel_rfl) (by kernel_rfl) (fun _ _ _ h => h) (by rfl) rfl rfl (fun _ h => h.1 (w6.heap.size, sinv (t)) (.head _)) hH8 ?_
  simp only [Act.put, List.setIfInBounds_toArray, List.set_cons_zero, List.set_cons_succ]
  refine step1 2 (by kernel_rfl) rfl (fun K hK => ?_)
  rw [if_pos (by rfl)]
  go_simp
  refine Calls.mono (Add_num (sinv (t)) (sinv (t)) (sinv_lt _) (sinv_lt _) _ (hT.grown hH8.2)) ?_
  rintro e w9 ⟨rfl, hg9⟩
  dsimp only
  refine hK.out _ _ (keepE hH8 hg9) (fun hH9 => ?_)
  clear hK K
  clear hH8
  clear hg9
  refine step1 3 (by kernel_rfl) rfl (fun K hK => ?_)
  rw [if_pos (by rfl)]
  go_simp
  refine Calls.mono (number_nat 1 (by decide) 1 rfl _) ?_
  rintro e w10 ⟨rfl, hg10⟩
  dsimp only
  refine hK.out _ _ (keepE hH9 hg10) (fun hH10 => ?_)
  clear hK K
  clear hH9
  clear hg10
  refine takeV 4 (.bool false) rfl (by kernel_rfl) (by kernel_rfl) (by kernel_rfl) (fun _ _ _ h => h) (by rfl) (fun w _ => exec_neq_same rfl (sadd (sinv (t)) (sinv (t))) (1) rfl rfl (sadd_lt _ _) (by decide) (hhalf.out) w) hH10 ?_
  simp only [Act.put, List.setIfInBounds_toArray, List.set_cons_zero, List.set_cons_succ]
  refine takeV 5 (.bool false) rfl (by kernel_rfl) (by kernel_rfl) (by kernel_rfl) (fun _ _ _ h => h) (by rfl) (fun w _ => rfl) hH10 ?_
  simp only [Act.put, List.setIfInBounds_toArray, List.set_cons_zero, List.set_cons_succ]
  refine take32 6 (sinv (a)) (w1.heap.size) rfl (by kernel_rfl) (by kernel_rfl) (by kernel_rfl) (fun _ _ _ h => h) (by rfl) rfl rfl (fun _ h => h.1 (w1.heap.size, sinv (a)) (.tail _ (.tail _ (.head _)))) hH10 ?_
  simp only [Act.put, List.setIfInBounds_toArray, List.set_cons_zero, List.set_cons_succ]
  refine step1 7 (by kernel_rfl) rfl (fun K hK => ?_)
  rw [if_pos (by rfl)]
  go_simp
  refine Calls.mono (Order_num _ (hT.grown hH10.2)) ?_
  rintro e w11 ⟨rfl, hg11⟩
  dsimp only
  refine hK.out _ _ (keepE hH10 hg11) (fun hH11 => ?_)
  clear hK K
  clear hH10
  clear hg11
  refine step1 8 (by kernel_rfl) rfl (fun K hK => ?_)
  rw [if_pos (by rfl)]
  go_simp
  refine Calls.mono (less_is (sinv (a)) (L) (sinv_lt _) L_lt_M true (decide_eq_true (sinv_ltL a)) _) ?_
  rintro e w12 ⟨rfl, hg12⟩
  dsimp only
  refine hK.out _ _ (keepE hH11 hg12) (fun hH12 => ?_)
  clear hK K
  clear hH11
  clear hg12
  refine takeV 9 (.bool false) rfl (by kernel_rfl) (by kernel_rfl) (by kernel_rfl) (fun _ _ _ h => h) (by rfl) (fun w _ => by first | rfl | go_simp) hH12 ?_
  simp only [Act.put, List.setIfInBounds_toArray, List.set_cons_zero, List.set_cons_succ]
  refine takeV 10 (.bool false) rfl (by kernel_rfl) (by kernel_rfl) (by kernel_rfl) (fun _ _ _ h => h) (by rfl) (fun w _ => rfl) hH12 ?_
  simp only [Act.put, List.setIfInBounds_toArray, List.set_cons_zero, List.set_cons_succ]
  refine wpAnyH_done (by kernel_rfl) ?_ _
  refine NoPanic.normal ?_
  obtain ⟨hE13, hW13⟩ := hH12
  repeat ((fail_if_success (with_reducible show Code.wp _ (Code.region _ _ _) _ _ _)); go_step)
  refine wp_region_noPanic ?_
  refine wp_region_held_drew (S := fun w' => Holds [(w6.heap.size, sinv (t)), (w3.heap.size, sred (a)), (w1.heap.size, sinv (a)), (w.heap.size, a)] w' ∧ Grown w w') (by kernel_rfl) ⟨hE13, hW13⟩ (fun hH14 => ?_)
  clear hE13 hW13
  refine take32 0 (sred (a)) (w3.heap.size) rfl (by kernel_rfl) (by kernel_rfl) (by kernel_rfl) (fun _ _ _ h => h) (by rfl) rfl rfl (fun _ h => h.1 (w3.heap.size, sred (a)) (.tail _ (.head _))) hH14 ?_
  simp only [Act.put, List.setIfInBounds_toArray, List.set_cons_zero, List.set_cons_succ]
  refine step1 1 (by kernel_rfl) rfl (fun K hK => ?_)
  rw [if_pos (by rfl)]
  go_simp
  refine Calls.mono (number_nat 0 (by decide) 0 rfl _) ?_
  rintro e w15 ⟨rfl, hg15⟩
  dsimp only
  refine hK.out _ _ (keepE hH14 hg15) (fun hH15 => ?_)
  clear hK K
  clear hH14
  clear hg15
  refine takeV 2 (.bool false) rfl (by kernel_rfl) (by kernel_rfl) (by kernel_rfl) (fun _ _ _ h => h) (by rfl) (fun w _ => exec_eql_apart rfl (sred (a)) (0) rfl rfl (sred_lt _) (by decide) (h0.out) w) hH15 ?_
  simp only [Act.put, List.setIfInBounds_toArray, List.set_cons_zero, List.set_cons_succ]
  refine wpAnyH_done (by kernel_rfl) ?_ _
  refine NoPanic.normal ?_
  obtain ⟨hE16, hW16⟩ := hH15
  repeat ((fail_if_success (with_reducible show Code.wp _ (Code.region _ _ _) _ _ _)); go_step)
  refine wp_region_noPanic ?_
  refine wp_region_held_drew (S := fun w' => Holds [(w6.heap.size, sinv (t)), (w3.heap.size, sred (a)), (w1.heap.size, sinv (a)), (w.heap.size, a)] w' ∧ Grown w w') (by kernel_rfl) ⟨hE16, hW16⟩ (fun hH17 => ?_)
  clear hE16 hW16
  refine take32 0 (a) (w.heap.size) rfl (by kernel_rfl) (by kernel_rfl) (by kernel_rfl) (fun _ _ _ h => h) (by rfl) rfl rfl (fun _ h => h.1 (w.heap.size, a) (.tail _ (.tail _ (.tail _ (.head _))))) hH17 ?_
  simp only [Act.put, List.setIfInBounds_toArray, List.set_cons_zero, List.set_cons_succ]
  refine take32 1 (sinv (a)) (w1.heap.size) rfl (by kernel_rfl) (by kernel_rfl) (by kernel_rfl) (fun _ _ _ h => h) (by rfl) rfl rfl (fun _ h => h.1 (w1.heap.size, sinv (a)) (.tail _ (.tail _ (.head _)))) hH17 ?_
  simp only [Act.put, List.setIfInBounds_toArray, List.set_cons_zero, List.set_cons_succ]
  refine step1 2 (by kernel_rfl) rfl (fun K hK => ?_)
  rw [if_pos (by rfl)]
  go_simp
  refine Calls.mono (number_nat 0 (by decide) 0 rfl _) ?_
  rintro e w18 ⟨rfl, hg18⟩
  dsimp only
  refine hK.out _ _ (keepE hH17 hg18) (fun hH18 => ?_)
  clear hK K
  clear hH17
  clear hg18
  refine step1 3 (by kernel_rfl) rfl (fun K hK => ?_)
  rw [if_pos (by rfl)]
  go_simp
  refine Calls.mono (MulAdd_num (a) (sinv (a)) (0) ha (sinv_lt _) (by decide) _ (hT.grown hH18.2)) ?_
  rintro e w19 ⟨rfl, hg19⟩
  dsimp only
  refine hK.out _ _ (keepE hH18 hg19) (fun hH19 => ?_)
  clear hK K
  clear hH18
  clear hg19
  refine step1 4 (by kernel_rfl) rfl (fun K hK => ?_)
  rw [if_pos (by rfl)]
  go_simp
  refine Calls.mono (number_nat 1 (by decide) 1 rfl _) ?_
  rintro e w20 ⟨rfl, hg20⟩
  dsimp only
  refine hK.out _ _ (keepE hH19 hg20) (fun hH20 => ?_)
  clear hK K
  clear hH19
  clear hg20
  refine takeV 5 (.bool true) rfl (by kernel_rfl) (by kernel_rfl) (by kernel_rfl) (fun _ _ _ h => h) (by rfl) (fun w _ => exec_eql_same rfl (smad (a) (sinv (a)) (0)) (1) rfl rfl (smad_lt _ _ _) (by decide) (mul_sinv h0.out) w) hH20 ?_
  simp only [Act.put, List.setIfInBounds_toArray, List.set_cons_zero, List.set_cons_succ]
  refine takeV 6 (.bool true) rfl (by kernel_rfl) (by kernel_rfl) (by kernel_rfl) (fun _ _ _ h => h) (by rfl) (fun w _ => rfl) hH20 ?_
  simp only [Act.put, List.setIfInBounds_toArray, List.set_cons_zero, List.set_cons_succ]
  refine take32 7 (sinv (a)) (w1.heap.size) rfl (by kernel_rfl) (by kernel_rfl) (by kernel_rfl) (fun _ _ _ h => h) (by rfl) rfl rfl (fun _ h => h.1 (w1.heap.size, sinv (a)) (.tail _ (.tail _ (.head _)))) hH20 ?_
  simp only [Act.put, List.setIfInBounds_toArray, List.set_cons_zero, List.set_cons_succ]
  refine take32 9 (sred (a)) (w3.heap.size) rfl (by kernel_rfl) (by kernel_rfl) (by kernel_rfl) (fun _ _ _ h => h) (by rfl) rfl rfl (fun _ h => h.1 (w3.heap.size, sred (a)) (.tail _ (.head _))) hH20 ?_
  simp only [Act.put, List.setIfInBounds_toArray, List.set_cons_zero, List.set_cons_succ]
  refine step1 8 (by kernel_rfl) rfl (fun K hK => ?_)
  rw [if_pos (by rfl)]
  go_simp
  refine Calls.mono (Invert_num (sinv (a)) (sinv_lt _) _ (hT.grown hH20.2)) ?_
  rintro e w21 ⟨rfl, hg21⟩
  dsimp only
  refine hK.out _ _ (keepE hH20 hg21) (fun hH21 => ?_)
  clear hK K
  clear hH20
  clear hg21
  refine takeV 10 (.bool true) rfl (by kernel_rfl) (by kernel_rfl) (by kernel_rfl) (fun _ _ _ h => h) (by rfl) (fun w _ => exec_eql_same rfl (sinv (sinv (a))) (sred (a)) rfl rfl (sinv_lt _) (sred_lt _) (sinv_sinv h0.out) w) hH21 ?_
  simp only [Act.put, List.setIfInBounds_toArray, List.set_cons_zero, List.set_cons_succ]
  refine takeV 11 (.bool true) rfl (by kernel_rfl) (by kernel_rfl) (by kernel_rfl) (fun _ _ _ h => h) (by rfl) (fun w _ => rfl) hH21 ?_
  simp only [Act.put, List.setIfInBounds_toArray, List.set_cons_zero, List.set_cons_succ]
  refine takeV 12 (.bool true) rfl (by kernel_rfl) (by kernel_rfl) (by kernel_rfl) (fun _ _ _ h => h) (by rfl) (fun w _ => rfl) hH21 ?_
  simp only [Act.put, List.setIfInBounds_toArray, List.set_cons_zero, List.set_cons_succ]
  refine wpAnyH_done (by kernel_rfl) ?_ _
  refine NoPanic.normal ?_
  obtain ⟨hE22, hW22⟩ := hH21
  repeat go_step
  go_ret
  exact ⟨rfl, by first | assumption | exact hW22⟩
end Go.Proofs.YteijccjdejjbjaaDoor
