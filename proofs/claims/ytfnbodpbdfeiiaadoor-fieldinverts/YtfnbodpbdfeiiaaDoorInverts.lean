import Derived.Test.YtfnbodpbdfeiiaaDoorInv2
import Derived.Test.YtfnbodpbdfeiiaaDoorEng3
namespace Go.Proofs.YtfnbodpbdfeiiaaDoor
open Go.RowKit Go.Shelf FieldNum

theorem half_aux (t y : Nat) (ht : t = 2) (h : t * y % p = 1) : (y + y) % p = 1 := by
  subst ht
  rw [← h]
  congr 1
  omega
theorem half_gen (t : Nat) (ht : t = 2) : fadd (inv t) (inv t) = 1 := half_aux t (inv t) ht (mul_inv (by rw [ht]; decide +kernel))

set_option maxRecDepth 100000 in
set_option maxHeartbeats 4000000 in
theorem inverts_walk0 (a b t : Nat) (ha : a < M) (hb : b < M) (ht : Hid (t = 2)) (htM : t < M) (hhalf : Hid (fadd (inv t) (inv t) = 1)) (h0 : Hid (fred a = 0)) (w : World) (hG : w.rangeAt 2 0 PW) :
    Calls Tryd.prog 6 #[bv a, bv b] w fun e w' => e = .returned (.bool true) ∧ Grown w w' := by
  rw [bv, bv]
  go_enter Tryd.func6, Tryd.ntmps6
  go_wp2_with fail
  obtain ⟨hE0, hW0⟩ := params2 w a b
  generalize ((w.alloc (Obj.cells (bl a).toArray 22)).alloc (Obj.cells (bl b).toArray 22)) = W0 at hE0 hW0 ⊢
  refine Calls.mono (number_nat 0 (by decide) 0 rfl _) ?_
  rintro e w0 ⟨rfl, hg0⟩
  dsimp only
  go_step
  have hE00 := hE0.grown hg0
  have hW00 := grown_trans hW0 hg0
  clear hE0 hW0 hg0
  go_wp2_with (with_reducible show wpList _ _ _ ({ dst := _, op := Op.store 22 _ _, type := _, pos := _, after := _, guard := _ } :: _) _ _; refine Shut.out ?_)
  show wpList _ _ _ _ _ _
  refine wpList_store_new (0) (by simp) rfl rfl rfl rfl (fun w1 hg1 hr1 _ => ?_)
  simp only [Act.put]
  have hE1 := (hE00.grown hg1).cons hr1
  have hW1 := grown_trans hW00 hg1
  clear hE00 hW00 hg1 hr1
  apply wpList_nil
  repeat ((fail_if_success (with_reducible show Code.wp _ (Code.region _ _ _) _ _ _)); go_step)
  apply wp_region_lit
  refine wpList_load32 rfl _ rfl _ rfl (a) (hE1 _ (.tail _ (.head _))) ?_
  simp only [Act.put, List.setIfInBounds_toArray, List.set_cons_zero, List.set_cons_succ]
  go_wp2_with fail
  refine Calls.mono (Invert_any (a) ha _ (rangeAt_grown hG hW1)) ?_
  rintro e w2 ⟨rfl, hg2⟩
  dsimp only
  go_step
  have hE2 := hE1.grown hg2
  have hW2 := grown_trans hW1 hg2
  clear hE1 hW1 hg2
  go_wp2_with (with_reducible show wpList _ _ _ ({ dst := _, op := Op.store 22 _ _, type := _, pos := _, after := _, guard := _ } :: _) _ _; refine Shut.out ?_)
  show wpList _ _ _ _ _ _
  refine wpList_store_new (inv (a)) (by simp) rfl rfl rfl rfl (fun w3 hg3 hr3 _ => ?_)
  simp only [Act.put]
  have hE3 := (hE2.grown hg3).cons hr3
  have hW3 := grown_trans hW2 hg3
  clear hE2 hW2 hg3 hr3
  apply wpList_nil
  repeat ((fail_if_success (with_reducible show Code.wp _ (Code.region _ _ _) _ _ _)); go_step)
  apply wp_region_lit
  refine wpList_load32 rfl _ rfl _ rfl (b) (hE3 _ (.tail _ (.tail _ (.tail _ (.head _))))) ?_
  simp only [Act.put, List.setIfInBounds_toArray, List.set_cons_zero, List.set_cons_succ]
  go_wp2_with fail
  refine Calls.mono (Invert_any (b) hb _ (rangeAt_grown hG hW3)) ?_
  rintro e w4 ⟨rfl, hg4⟩
  dsimp only
  go_step
  have hE4 := hE3.grown hg4
  have hW4 := grown_trans hW3 hg4
  clear hE3 hW3 hg4
  go_wp2_with (with_reducible show wpList _ _ _ ({ dst := _, op := Op.store 22 _ _, type := _, pos := _, after := _, guard := _ } :: _) _ _; refine Shut.out ?_)
  show wpList _ _ _ _ _ _
  refine wpList_store_new (inv (b)) (by simp) rfl rfl rfl rfl (fun w5 hg5 hr5 _ => ?_)
  simp only [Act.put]
  have hE5 := (hE4.grown hg5).cons hr5
  have hW5 := grown_trans hW4 hg5
  clear hE4 hW4 hg5 hr5
  apply wpList_nil
  repeat ((fail_if_success (with_reducible show Code.wp _ (Code.region _ _ _) _ _ _)); go_step)
  apply wp_region_lit
  go_wp2_with fail
  refine Calls.mono (number_nat t (by rw [ht.out]; decide) 2 (by rw [ht.out]; rfl) _) ?_
  rintro e w6 ⟨rfl, hg6⟩
  dsimp only
  go_step
  have hE6 := hE5.grown hg6
  have hW6 := grown_trans hW5 hg6
  clear hE5 hW5 hg6
  go_wp2_with fail
  refine Calls.mono (Invert_any (t) htM _ (rangeAt_grown hG hW6)) ?_
  rintro e w7 ⟨rfl, hg7⟩
  dsimp only
  go_step
  have hE7 := hE6.grown hg7
  have hW7 := grown_trans hW6 hg7
  clear hE6 hW6 hg7
  go_wp2_with (with_reducible show wpList _ _ _ ({ dst := _, op := Op.store 22 _ _, type := _, pos := _, after := _, guard := _ } :: _) _ _; refine Shut.out ?_)
  show wpList _ _ _ _ _ _
  refine wpList_store_new (inv (t)) (by simp) rfl rfl rfl rfl (fun w8 hg8 hr8 _ => ?_)
  simp only [Act.put]
  have hE8 := (hE7.grown hg8).cons hr8
  have hW8 := grown_trans hW7 hg8
  clear hE7 hW7 hg8 hr8
  apply wpList_nil
  repeat ((fail_if_success (with_reducible show Code.wp _ (Code.region _ _ _) _ _ _)); go_step)
  refine wp_region_noPanic ?_
  refine wp_region_held_drew (S := fun w' => Holds [(w7.heap.size, inv (t)), (w4.heap.size, inv (b)), (w2.heap.size, inv (a)), (w0.heap.size, 0), (w.heap.size, a), (w.heap.size + 1, b)] w' ∧ Grown w w') (by kernel_rfl) ⟨hE8, hW8⟩ (fun hH9 => ?_)
  clear hE8 hW8
  refine take32 0 (inv (t)) (w7.heap.size) rfl (by kernel_rfl) (by kernel_rfl) (by kernel_rfl) (fun _ _ _ h => h) (by rfl) rfl rfl (fun _ h => h.1 _ (.head _)) hH9 ?_
  simp only [Act.put, List.setIfInBounds_toArray, List.set_cons_zero, List.set_cons_succ]
  refine take32 1 (inv (t)) (w7.heap.size) rfl (by kernel_rfl) (by kernel_rfl) (by kernel_rfl) (fun _ _ _ h => h) (by rfl) rfl rfl (fun _ h => h.1 _ (.head _)) hH9 ?_
  simp only [Act.put, List.setIfInBounds_toArray, List.set_cons_zero, List.set_cons_succ]
  refine step1 2 (by kernel_rfl) rfl (fun K hK => ?_)
  rw [if_pos (by rfl)]
  go_simp
  refine Calls.mono (Add_f (inv (t)) (inv (t)) (finv_lt _) (finv_lt _) _) ?_
  rintro e w10 ⟨rfl, hg10⟩
  dsimp only
  refine hK.out _ _ (keepE hH9 hg10) (fun hH10 => ?_)
  clear hK K
  clear hH9
  clear hg10
  refine step1 3 (by kernel_rfl) rfl (fun K hK => ?_)
  rw [if_pos (by rfl)]
  go_simp
  refine Calls.mono (number_nat 1 (by decide) 1 rfl _) ?_
  rintro e w11 ⟨rfl, hg11⟩
  dsimp only
  refine hK.out _ _ (keepE hH10 hg11) (fun hH11 => ?_)
  clear hK K
  clear hH10
  clear hg11
  refine takeV 4 (.bool false) rfl (by kernel_rfl) (by kernel_rfl) (by kernel_rfl) (fun _ _ _ h => h) (by rfl) (fun w _ => exec_neq_same rfl (fadd (inv (t)) (inv (t))) (1) rfl rfl (fadd_lt _ _) (by decide) (hhalf.out) w) hH11 ?_
  simp only [Act.put, List.setIfInBounds_toArray, List.set_cons_zero, List.set_cons_succ]
  refine takeV 5 (.bool false) rfl (by kernel_rfl) (by kernel_rfl) (by kernel_rfl) (fun _ _ _ h => h) (by rfl) (fun w _ => rfl) hH11 ?_
  simp only [Act.put, List.setIfInBounds_toArray, List.set_cons_zero, List.set_cons_succ]
  refine take32 6 (inv (a)) (w2.heap.size) rfl (by kernel_rfl) (by kernel_rfl) (by kernel_rfl) (fun _ _ _ h => h) (by rfl) rfl rfl (fun _ h => h.1 _ (.tail _ (.tail _ (.head _)))) hH11 ?_
  simp only [Act.put, List.setIfInBounds_toArray, List.set_cons_zero, List.set_cons_succ]
  refine step1 7 (by kernel_rfl) rfl (fun K hK => ?_)
  rw [if_pos (by rfl)]
  go_simp
  refine Calls.mono (prime_any _) ?_
  rintro e w12 ⟨rfl, hg12⟩
  dsimp only
  refine hK.out _ _ (keepE hH11 hg12) (fun hH12 => ?_)
  clear hK K
  clear hH11
  clear hg12
  refine step1 8 (by kernel_rfl) rfl (fun K hK => ?_)
  rw [if_pos (by rfl)]
  go_simp
  refine Calls.mono (less_true (inv (a)) (p) (finv_lt _) p_lt_M (inv_lt a) _) ?_
  rintro e w13 ⟨rfl, hg13⟩
  dsimp only
  refine hK.out _ _ (keepE hH12 hg13) (fun hH13 => ?_)
  clear hK K
  clear hH12
  clear hg13
  refine takeV 9 (.bool false) rfl (by kernel_rfl) (by kernel_rfl) (by kernel_rfl) (fun _ _ _ h => h) (by rfl) (fun w _ => by first | rfl | go_simp) hH13 ?_
  simp only [Act.put, List.setIfInBounds_toArray, List.set_cons_zero, List.set_cons_succ]
  refine takeV 10 (.bool false) rfl (by kernel_rfl) (by kernel_rfl) (by kernel_rfl) (fun _ _ _ h => h) (by rfl) (fun w _ => rfl) hH13 ?_
  simp only [Act.put, List.setIfInBounds_toArray, List.set_cons_zero, List.set_cons_succ]
  refine wpAnyH_done (by kernel_rfl) ?_ _
  refine NoPanic.normal ?_
  obtain ⟨hE14, hW14⟩ := hH13
  repeat ((fail_if_success (with_reducible show Code.wp _ (Code.region _ _ _) _ _ _)); go_step)
  apply wp_region_lit
  refine wpList_load32 rfl _ rfl _ rfl (a) (hE14 _ (.tail _ (.tail _ (.tail _ (.tail _ (.head _)))))) ?_
  simp only [Act.put, List.setIfInBounds_toArray, List.set_cons_zero, List.set_cons_succ]
  go_wp2_with fail
  refine Calls.mono (Reduce_f (a) ha _) ?_
  rintro e w15 ⟨rfl, hg15⟩
  dsimp only
  go_step
  have hE15 := hE14.grown hg15
  have hW15 := grown_trans hW14 hg15
  clear hE14 hW14 hg15
  go_wp2_with (with_reducible show wpList _ _ _ ({ dst := _, op := Op.store 22 _ _, type := _, pos := _, after := _, guard := _ } :: _) _ _; refine Shut.out ?_)
  show wpList _ _ _ _ _ _
  refine wpList_store_new (fred (a)) (by simp) rfl rfl rfl rfl (fun w16 hg16 hr16 _ => ?_)
  simp only [Act.put]
  have hE16 := (hE15.grown hg16).cons hr16
  have hW16 := grown_trans hW15 hg16
  clear hE15 hW15 hg16 hr16
  apply wpList_nil
  repeat ((fail_if_success (with_reducible show Code.wp _ (Code.region _ _ _) _ _ _)); go_step)
  refine wp_region_noPanic ?_
  refine wp_region_held_drew (S := fun w' => Holds [(w15.heap.size, fred (a)), (w7.heap.size, inv (t)), (w4.heap.size, inv (b)), (w2.heap.size, inv (a)), (w0.heap.size, 0), (w.heap.size, a), (w.heap.size + 1, b)] w' ∧ Grown w w') (by kernel_rfl) ⟨hE16, hW16⟩ (fun hH17 => ?_)
  clear hE16 hW16
  refine take32 0 (inv (a)) (w2.heap.size) rfl (by kernel_rfl) (by kernel_rfl) (by kernel_rfl) (fun _ _ _ h => h) (by rfl) rfl rfl (fun _ h => h.1 _ (.tail _ (.tail _ (.tail _ (.head _))))) hH17 ?_
  simp only [Act.put, List.setIfInBounds_toArray, List.set_cons_zero, List.set_cons_succ]
  refine take32 2 (fred (a)) (w15.heap.size) rfl (by kernel_rfl) (by kernel_rfl) (by kernel_rfl) (fun _ _ _ h => h) (by rfl) rfl rfl (fun _ h => h.1 _ (.head _)) hH17 ?_
  simp only [Act.put, List.setIfInBounds_toArray, List.set_cons_zero, List.set_cons_succ]
  refine step1 1 (by kernel_rfl) rfl (fun K hK => ?_)
  rw [if_pos (by rfl)]
  go_simp
  refine Calls.mono (Invert_any (inv (a)) (finv_lt _) _ (rangeAt_grown hG hH17.2)) ?_
  rintro e w18 ⟨rfl, hg18⟩
  dsimp only
  refine hK.out _ _ (keepE hH17 hg18) (fun hH18 => ?_)
  clear hK K
  clear hH17
  clear hg18
  refine takeV 3 (.bool false) rfl (by kernel_rfl) (by kernel_rfl) (by kernel_rfl) (fun _ _ _ h => h) (by rfl) (fun w _ => exec_neq_same rfl (inv (inv (a))) (fred (a)) rfl rfl (finv_lt _) (fred_lt _) (inv_inv a) w) hH18 ?_
  simp only [Act.put, List.setIfInBounds_toArray, List.set_cons_zero, List.set_cons_succ]
  refine takeV 4 (.bool false) rfl (by kernel_rfl) (by kernel_rfl) (by kernel_rfl) (fun _ _ _ h => h) (by rfl) (fun w _ => rfl) hH18 ?_
  simp only [Act.put, List.setIfInBounds_toArray, List.set_cons_zero, List.set_cons_succ]
  refine take32 5 (a) (w.heap.size) rfl (by kernel_rfl) (by kernel_rfl) (by kernel_rfl) (fun _ _ _ h => h) (by rfl) rfl rfl (fun _ h => h.1 _ (.tail _ (.tail _ (.tail _ (.tail _ (.tail _ (.head _))))))) hH18 ?_
  simp only [Act.put, List.setIfInBounds_toArray, List.set_cons_zero, List.set_cons_succ]
  refine take32 6 (b) (w.heap.size + 1) rfl (by kernel_rfl) (by kernel_rfl) (by kernel_rfl) (fun _ _ _ h => h) (by rfl) rfl rfl (fun _ h => h.1 _ (.tail _ (.tail _ (.tail _ (.tail _ (.tail _ (.tail _ (.head _)))))))) hH18 ?_
  simp only [Act.put, List.setIfInBounds_toArray, List.set_cons_zero, List.set_cons_succ]
  refine take32 9 (inv (a)) (w2.heap.size) rfl (by kernel_rfl) (by kernel_rfl) (by kernel_rfl) (fun _ _ _ h => h) (by rfl) rfl rfl (fun _ h => h.1 _ (.tail _ (.tail _ (.tail _ (.head _))))) hH18 ?_
  simp only [Act.put, List.setIfInBounds_toArray, List.set_cons_zero, List.set_cons_succ]
  refine take32 10 (inv (b)) (w4.heap.size) rfl (by kernel_rfl) (by kernel_rfl) (by kernel_rfl) (fun _ _ _ h => h) (by rfl) rfl rfl (fun _ h => h.1 _ (.tail _ (.tail _ (.head _)))) hH18 ?_
  simp only [Act.put, List.setIfInBounds_toArray, List.set_cons_zero, List.set_cons_succ]
  refine step1 7 (by kernel_rfl) rfl (fun K hK => ?_)
  rw [if_pos (by rfl)]
  go_simp
  refine Calls.mono (Mul_f (a) (b) ha hb _) ?_
  rintro e w19 ⟨rfl, hg19⟩
  dsimp only
  refine hK.out _ _ (keepE hH18 hg19) (fun hH19 => ?_)
  clear hK K
  clear hH18
  clear hg19
  refine step1 8 (by kernel_rfl) rfl (fun K hK => ?_)
  rw [if_pos (by rfl)]
  go_simp
  refine Calls.mono (Invert_any (fmul (a) (b)) (fmul_lt _ _) _ (rangeAt_grown hG hH19.2)) ?_
  rintro e w20 ⟨rfl, hg20⟩
  dsimp only
  refine hK.out _ _ (keepE hH19 hg20) (fun hH20 => ?_)
  clear hK K
  clear hH19
  clear hg20
  refine step1 11 (by kernel_rfl) rfl (fun K hK => ?_)
  rw [if_pos (by rfl)]
  go_simp
  refine Calls.mono (Mul_f (inv (a)) (inv (b)) (finv_lt _) (finv_lt _) _) ?_
  rintro e w21 ⟨rfl, hg21⟩
  dsimp only
  refine hK.out _ _ (keepE hH20 hg21) (fun hH21 => ?_)
  clear hK K
  clear hH20
  clear hg21
  refine takeV 12 (.bool false) rfl (by kernel_rfl) (by kernel_rfl) (by kernel_rfl) (fun _ _ _ h => h) (by rfl) (fun w _ => exec_neq_same rfl (inv (fmul (a) (b))) (fmul (inv (a)) (inv (b))) rfl rfl (finv_lt _) (fmul_lt _ _) (inv_mul a b) w) hH21 ?_
  simp only [Act.put, List.setIfInBounds_toArray, List.set_cons_zero, List.set_cons_succ]
  refine takeV 13 (.bool false) rfl (by kernel_rfl) (by kernel_rfl) (by kernel_rfl) (fun _ _ _ h => h) (by rfl) (fun w _ => rfl) hH21 ?_
  simp only [Act.put, List.setIfInBounds_toArray, List.set_cons_zero, List.set_cons_succ]
  refine wpAnyH_done (by kernel_rfl) ?_ _
  refine NoPanic.normal ?_
  obtain ⟨hE22, hW22⟩ := hH21
  repeat ((fail_if_success (with_reducible show Code.wp _ (Code.region _ _ _) _ _ _)); go_step)
  apply wp_region_lit
  refine wpList_load32 rfl _ rfl _ rfl (fred (a)) (hE22 _ (.head _)) ?_
  simp only [Act.put, List.setIfInBounds_toArray, List.set_cons_zero, List.set_cons_succ]
  refine wpList_load32 rfl _ rfl _ rfl (0) (hE22 _ (.tail _ (.tail _ (.tail _ (.tail _ (.head _)))))) ?_
  simp only [Act.put, List.setIfInBounds_toArray, List.set_cons_zero, List.set_cons_succ]
  refine wpList_val (.bool true) rfl (exec_eql_same rfl (fred (a)) (0) rfl rfl (fred_lt _) (by decide) (h0.out) _) ?_
  simp only [Act.put, List.setIfInBounds_toArray, List.set_cons_zero, List.set_cons_succ]
  apply wpList_nil
  repeat ((fail_if_success (with_reducible show Code.wp _ (Code.region _ _ _) _ _ _)); go_step)
  apply wp_region_lit
  refine wpList_load32 rfl _ rfl _ rfl (inv (a)) (hE22 _ (.tail _ (.tail _ (.tail _ (.head _))))) ?_
  simp only [Act.put, List.setIfInBounds_toArray, List.set_cons_zero, List.set_cons_succ]
  refine wpList_load32 rfl _ rfl _ rfl (0) (hE22 _ (.tail _ (.tail _ (.tail _ (.tail _ (.head _)))))) ?_
  simp only [Act.put, List.setIfInBounds_toArray, List.set_cons_zero, List.set_cons_succ]
  refine wpList_val (.bool true) rfl (exec_eql_same rfl (inv (a)) (0) rfl rfl (finv_lt _) (by decide) (inv_of_zero h0.out) _) ?_
  simp only [Act.put, List.setIfInBounds_toArray, List.set_cons_zero, List.set_cons_succ]
  refine wpList_val (.bool true) rfl rfl ?_
  simp only [Act.put, List.setIfInBounds_toArray, List.set_cons_zero, List.set_cons_succ]
  apply wpList_nil
  repeat ((fail_if_success (with_reducible show Code.wp _ (Code.region _ _ _) _ _ _)); go_step)
  repeat go_step
  go_ret
  exact ⟨rfl, by first | assumption | exact hW22⟩

set_option maxRecDepth 100000 in
set_option maxHeartbeats 4000000 in
theorem inverts_walk1 (a b t : Nat) (ha : a < M) (hb : b < M) (ht : Hid (t = 2)) (htM : t < M) (hhalf : Hid (fadd (inv t) (inv t) = 1)) (h0 : Hid (¬ fred a = 0)) (w : World) (hG : w.rangeAt 2 0 PW) :
    Calls Tryd.prog 6 #[bv a, bv b] w fun e w' => e = .returned (.bool true) ∧ Grown w w' := by
  rw [bv, bv]
  go_enter Tryd.func6, Tryd.ntmps6
  go_wp2_with fail
  obtain ⟨hE0, hW0⟩ := params2 w a b
  generalize ((w.alloc (Obj.cells (bl a).toArray 22)).alloc (Obj.cells (bl b).toArray 22)) = W0 at hE0 hW0 ⊢
  refine Calls.mono (number_nat 0 (by decide) 0 rfl _) ?_
  rintro e w0 ⟨rfl, hg0⟩
  dsimp only
  go_step
  have hE00 := hE0.grown hg0
  have hW00 := grown_trans hW0 hg0
  clear hE0 hW0 hg0
  go_wp2_with (with_reducible show wpList _ _ _ ({ dst := _, op := Op.store 22 _ _, type := _, pos := _, after := _, guard := _ } :: _) _ _; refine Shut.out ?_)
  show wpList _ _ _ _ _ _
  refine wpList_store_new (0) (by simp) rfl rfl rfl rfl (fun w1 hg1 hr1 _ => ?_)
  simp only [Act.put]
  have hE1 := (hE00.grown hg1).cons hr1
  have hW1 := grown_trans hW00 hg1
  clear hE00 hW00 hg1 hr1
  apply wpList_nil
  repeat ((fail_if_success (with_reducible show Code.wp _ (Code.region _ _ _) _ _ _)); go_step)
  apply wp_region_lit
  refine wpList_load32 rfl _ rfl _ rfl (a) (hE1 _ (.tail _ (.head _))) ?_
  simp only [Act.put, List.setIfInBounds_toArray, List.set_cons_zero, List.set_cons_succ]
  go_wp2_with fail
  refine Calls.mono (Invert_any (a) ha _ (rangeAt_grown hG hW1)) ?_
  rintro e w2 ⟨rfl, hg2⟩
  dsimp only
  go_step
  have hE2 := hE1.grown hg2
  have hW2 := grown_trans hW1 hg2
  clear hE1 hW1 hg2
  go_wp2_with (with_reducible show wpList _ _ _ ({ dst := _, op := Op.store 22 _ _, type := _, pos := _, after := _, guard := _ } :: _) _ _; refine Shut.out ?_)
  show wpList _ _ _ _ _ _
  refine wpList_store_new (inv (a)) (by simp) rfl rfl rfl rfl (fun w3 hg3 hr3 _ => ?_)
  simp only [Act.put]
  have hE3 := (hE2.grown hg3).cons hr3
  have hW3 := grown_trans hW2 hg3
  clear hE2 hW2 hg3 hr3
  apply wpList_nil
  repeat ((fail_if_success (with_reducible show Code.wp _ (Code.region _ _ _) _ _ _)); go_step)
  apply wp_region_lit
  refine wpList_load32 rfl _ rfl _ rfl (b) (hE3 _ (.tail _ (.tail _ (.tail _ (.head _))))) ?_
  simp only [Act.put, List.setIfInBounds_toArray, List.set_cons_zero, List.set_cons_succ]
  go_wp2_with fail
  refine Calls.mono (Invert_any (b) hb _ (rangeAt_grown hG hW3)) ?_
  rintro e w4 ⟨rfl, hg4⟩
  dsimp only
  go_step
  have hE4 := hE3.grown hg4
  have hW4 := grown_trans hW3 hg4
  clear hE3 hW3 hg4
  go_wp2_with (with_reducible show wpList _ _ _ ({ dst := _, op := Op.store 22 _ _, type := _, pos := _, after := _, guard := _ } :: _) _ _; refine Shut.out ?_)
  show wpList _ _ _ _ _ _
  refine wpList_store_new (inv (b)) (by simp) rfl rfl rfl rfl (fun w5 hg5 hr5 _ => ?_)
  simp only [Act.put]
  have hE5 := (hE4.grown hg5).cons hr5
  have hW5 := grown_trans hW4 hg5
  clear hE4 hW4 hg5 hr5
  apply wpList_nil
  repeat ((fail_if_success (with_reducible show Code.wp _ (Code.region _ _ _) _ _ _)); go_step)
  apply wp_region_lit
  go_wp2_with fail
  refine Calls.mono (number_nat t (by rw [ht.out]; decide) 2 (by rw [ht.out]; rfl) _) ?_
  rintro e w6 ⟨rfl, hg6⟩
  dsimp only
  go_step
  have hE6 := hE5.grown hg6
  have hW6 := grown_trans hW5 hg6
  clear hE5 hW5 hg6
  go_wp2_with fail
  refine Calls.mono (Invert_any (t) htM _ (rangeAt_grown hG hW6)) ?_
  rintro e w7 ⟨rfl, hg7⟩
  dsimp only
  go_step
  have hE7 := hE6.grown hg7
  have hW7 := grown_trans hW6 hg7
  clear hE6 hW6 hg7
  go_wp2_with (with_reducible show wpList _ _ _ ({ dst := _, op := Op.store 22 _ _, type := _, pos := _, after := _, guard := _ } :: _) _ _; refine Shut.out ?_)
  show wpList _ _ _ _ _ _
  refine wpList_store_new (inv (t)) (by simp) rfl rfl rfl rfl (fun w8 hg8 hr8 _ => ?_)
  simp only [Act.put]
  have hE8 := (hE7.grown hg8).cons hr8
  have hW8 := grown_trans hW7 hg8
  clear hE7 hW7 hg8 hr8
  apply wpList_nil
  repeat ((fail_if_success (with_reducible show Code.wp _ (Code.region _ _ _) _ _ _)); go_step)
  refine wp_region_noPanic ?_
  refine wp_region_held_drew (S := fun w' => Holds [(w7.heap.size, inv (t)), (w4.heap.size, inv (b)), (w2.heap.size, inv (a)), (w0.heap.size, 0), (w.heap.size, a), (w.heap.size + 1, b)] w' ∧ Grown w w') (by kernel_rfl) ⟨hE8, hW8⟩ (fun hH9 => ?_)
  clear hE8 hW8
  refine take32 0 (inv (t)) (w7.heap.size) rfl (by kernel_rfl) (by kernel_rfl) (by kernel_rfl) (fun _ _ _ h => h) (by rfl) rfl rfl (fun _ h => h.1 _ (.head _)) hH9 ?_
  simp only [Act.put, List.setIfInBounds_toArray, List.set_cons_zero, List.set_cons_succ]
  refine take32 1 (inv (t)) (w7.heap.size) rfl (by kernel_rfl) (by kernel_rfl) (by kernel_rfl) (fun _ _ _ h => h) (by rfl) rfl rfl (fun _ h => h.1 _ (.head _)) hH9 ?_
  simp only [Act.put, List.setIfInBounds_toArray, List.set_cons_zero, List.set_cons_succ]
  refine step1 2 (by kernel_rfl) rfl (fun K hK => ?_)
  rw [if_pos (by rfl)]
  go_simp
  refine Calls.mono (Add_f (inv (t)) (inv (t)) (finv_lt _) (finv_lt _) _) ?_
  rintro e w10 ⟨rfl, hg10⟩
  dsimp only
  refine hK.out _ _ (keepE hH9 hg10) (fun hH10 => ?_)
  clear hK K
  clear hH9
  clear hg10
  refine step1 3 (by kernel_rfl) rfl (fun K hK => ?_)
  rw [if_pos (by rfl)]
  go_simp
  refine Calls.mono (number_nat 1 (by decide) 1 rfl _) ?_
  rintro e w11 ⟨rfl, hg11⟩
  dsimp only
  refine hK.out _ _ (keepE hH10 hg11) (fun hH11 => ?_)
  clear hK K
  clear hH10
  clear hg11
  refine takeV 4 (.bool false) rfl (by kernel_rfl) (by kernel_rfl) (by kernel_rfl) (fun _ _ _ h => h) (by rfl) (fun w _ => exec_neq_same rfl (fadd (inv (t)) (inv (t))) (1) rfl rfl (fadd_lt _ _) (by decide) (hhalf.out) w) hH11 ?_
  simp only [Act.put, List.setIfInBounds_toArray, List.set_cons_zero, List.set_cons_succ]
  refine takeV 5 (.bool false) rfl (by kernel_rfl) (by kernel_rfl) (by kernel_rfl) (fun _ _ _ h => h) (by rfl) (fun w _ => rfl) hH11 ?_
  simp only [Act.put, List.setIfInBounds_toArray, List.set_cons_zero, List.set_cons_succ]
  refine take32 6 (inv (a)) (w2.heap.size) rfl (by kernel_rfl) (by kernel_rfl) (by kernel_rfl) (fun _ _ _ h => h) (by rfl) rfl rfl (fun _ h => h.1 _ (.tail _ (.tail _ (.head _)))) hH11 ?_
  simp only [Act.put, List.setIfInBounds_toArray, List.set_cons_zero, List.set_cons_succ]
  refine step1 7 (by kernel_rfl) rfl (fun K hK => ?_)
  rw [if_pos (by rfl)]
  go_simp
  refine Calls.mono (prime_any _) ?_
  rintro e w12 ⟨rfl, hg12⟩
  dsimp only
  refine hK.out _ _ (keepE hH11 hg12) (fun hH12 => ?_)
  clear hK K
  clear hH11
  clear hg12
  refine step1 8 (by kernel_rfl) rfl (fun K hK => ?_)
  rw [if_pos (by rfl)]
  go_simp
  refine Calls.mono (less_true (inv (a)) (p) (finv_lt _) p_lt_M (inv_lt a) _) ?_
  rintro e w13 ⟨rfl, hg13⟩
  dsimp only
  refine hK.out _ _ (keepE hH12 hg13) (fun hH13 => ?_)
  clear hK K
  clear hH12
  clear hg13
  refine takeV 9 (.bool false) rfl (by kernel_rfl) (by kernel_rfl) (by kernel_rfl) (fun _ _ _ h => h) (by rfl) (fun w _ => by first | rfl | go_simp) hH13 ?_
  simp only [Act.put, List.setIfInBounds_toArray, List.set_cons_zero, List.set_cons_succ]
  refine takeV 10 (.bool false) rfl (by kernel_rfl) (by kernel_rfl) (by kernel_rfl) (fun _ _ _ h => h) (by rfl) (fun w _ => rfl) hH13 ?_
  simp only [Act.put, List.setIfInBounds_toArray, List.set_cons_zero, List.set_cons_succ]
  refine wpAnyH_done (by kernel_rfl) ?_ _
  refine NoPanic.normal ?_
  obtain ⟨hE14, hW14⟩ := hH13
  repeat ((fail_if_success (with_reducible show Code.wp _ (Code.region _ _ _) _ _ _)); go_step)
  apply wp_region_lit
  refine wpList_load32 rfl _ rfl _ rfl (a) (hE14 _ (.tail _ (.tail _ (.tail _ (.tail _ (.head _)))))) ?_
  simp only [Act.put, List.setIfInBounds_toArray, List.set_cons_zero, List.set_cons_succ]
  go_wp2_with fail
  refine Calls.mono (Reduce_f (a) ha _) ?_
  rintro e w15 ⟨rfl, hg15⟩
  dsimp only
  go_step
  have hE15 := hE14.grown hg15
  have hW15 := grown_trans hW14 hg15
  clear hE14 hW14 hg15
  go_wp2_with (with_reducible show wpList _ _ _ ({ dst := _, op := Op.store 22 _ _, type := _, pos := _, after := _, guard := _ } :: _) _ _; refine Shut.out ?_)
  show wpList _ _ _ _ _ _
  refine wpList_store_new (fred (a)) (by simp) rfl rfl rfl rfl (fun w16 hg16 hr16 _ => ?_)
  simp only [Act.put]
  have hE16 := (hE15.grown hg16).cons hr16
  have hW16 := grown_trans hW15 hg16
  clear hE15 hW15 hg16 hr16
  apply wpList_nil
  repeat ((fail_if_success (with_reducible show Code.wp _ (Code.region _ _ _) _ _ _)); go_step)
  refine wp_region_noPanic ?_
  refine wp_region_held_drew (S := fun w' => Holds [(w15.heap.size, fred (a)), (w7.heap.size, inv (t)), (w4.heap.size, inv (b)), (w2.heap.size, inv (a)), (w0.heap.size, 0), (w.heap.size, a), (w.heap.size + 1, b)] w' ∧ Grown w w') (by kernel_rfl) ⟨hE16, hW16⟩ (fun hH17 => ?_)
  clear hE16 hW16
  refine take32 0 (inv (a)) (w2.heap.size) rfl (by kernel_rfl) (by kernel_rfl) (by kernel_rfl) (fun _ _ _ h => h) (by rfl) rfl rfl (fun _ h => h.1 _ (.tail _ (.tail _ (.tail _ (.head _))))) hH17 ?_
  simp only [Act.put, List.setIfInBounds_toArray, List.set_cons_zero, List.set_cons_succ]
  refine take32 2 (fred (a)) (w15.heap.size) rfl (by kernel_rfl) (by kernel_rfl) (by kernel_rfl) (fun _ _ _ h => h) (by rfl) rfl rfl (fun _ h => h.1 _ (.head _)) hH17 ?_
  simp only [Act.put, List.setIfInBounds_toArray, List.set_cons_zero, List.set_cons_succ]
  refine step1 1 (by kernel_rfl) rfl (fun K hK => ?_)
  rw [if_pos (by rfl)]
  go_simp
  refine Calls.mono (Invert_any (inv (a)) (finv_lt _) _ (rangeAt_grown hG hH17.2)) ?_
  rintro e w18 ⟨rfl, hg18⟩
  dsimp only
  refine hK.out _ _ (keepE hH17 hg18) (fun hH18 => ?_)
  clear hK K
  clear hH17
  clear hg18
  refine takeV 3 (.bool false) rfl (by kernel_rfl) (by kernel_rfl) (by kernel_rfl) (fun _ _ _ h => h) (by rfl) (fun w _ => exec_neq_same rfl (inv (inv (a))) (fred (a)) rfl rfl (finv_lt _) (fred_lt _) (inv_inv a) w) hH18 ?_
  simp only [Act.put, List.setIfInBounds_toArray, List.set_cons_zero, List.set_cons_succ]
  refine takeV 4 (.bool false) rfl (by kernel_rfl) (by kernel_rfl) (by kernel_rfl) (fun _ _ _ h => h) (by rfl) (fun w _ => rfl) hH18 ?_
  simp only [Act.put, List.setIfInBounds_toArray, List.set_cons_zero, List.set_cons_succ]
  refine take32 5 (a) (w.heap.size) rfl (by kernel_rfl) (by kernel_rfl) (by kernel_rfl) (fun _ _ _ h => h) (by rfl) rfl rfl (fun _ h => h.1 _ (.tail _ (.tail _ (.tail _ (.tail _ (.tail _ (.head _))))))) hH18 ?_
  simp only [Act.put, List.setIfInBounds_toArray, List.set_cons_zero, List.set_cons_succ]
  refine take32 6 (b) (w.heap.size + 1) rfl (by kernel_rfl) (by kernel_rfl) (by kernel_rfl) (fun _ _ _ h => h) (by rfl) rfl rfl (fun _ h => h.1 _ (.tail _ (.tail _ (.tail _ (.tail _ (.tail _ (.tail _ (.head _)))))))) hH18 ?_
  simp only [Act.put, List.setIfInBounds_toArray, List.set_cons_zero, List.set_cons_succ]
  refine take32 9 (inv (a)) (w2.heap.size) rfl (by kernel_rfl) (by kernel_rfl) (by kernel_rfl) (fun _ _ _ h => h) (by rfl) rfl rfl (fun _ h => h.1 _ (.tail _ (.tail _ (.tail _ (.head _))))) hH18 ?_
  simp only [Act.put, List.setIfInBounds_toArray, List.set_cons_zero, List.set_cons_succ]
  refine take32 10 (inv (b)) (w4.heap.size) rfl (by kernel_rfl) (by kernel_rfl) (by kernel_rfl) (fun _ _ _ h => h) (by rfl) rfl rfl (fun _ h => h.1 _ (.tail _ (.tail _ (.head _)))) hH18 ?_
  simp only [Act.put, List.setIfInBounds_toArray, List.set_cons_zero, List.set_cons_succ]
  refine step1 7 (by kernel_rfl) rfl (fun K hK => ?_)
  rw [if_pos (by rfl)]
  go_simp
  refine Calls.mono (Mul_f (a) (b) ha hb _) ?_
  rintro e w19 ⟨rfl, hg19⟩
  dsimp only
  refine hK.out _ _ (keepE hH18 hg19) (fun hH19 => ?_)
  clear hK K
  clear hH18
  clear hg19
  refine step1 8 (by kernel_rfl) rfl (fun K hK => ?_)
  rw [if_pos (by rfl)]
  go_simp
  refine Calls.mono (Invert_any (fmul (a) (b)) (fmul_lt _ _) _ (rangeAt_grown hG hH19.2)) ?_
  rintro e w20 ⟨rfl, hg20⟩
  dsimp only
  refine hK.out _ _ (keepE hH19 hg20) (fun hH20 => ?_)
  clear hK K
  clear hH19
  clear hg20
  refine step1 11 (by kernel_rfl) rfl (fun K hK => ?_)
  rw [if_pos (by rfl)]
  go_simp
  refine Calls.mono (Mul_f (inv (a)) (inv (b)) (finv_lt _) (finv_lt _) _) ?_
  rintro e w21 ⟨rfl, hg21⟩
  dsimp only
  refine hK.out _ _ (keepE hH20 hg21) (fun hH21 => ?_)
  clear hK K
  clear hH20
  clear hg21
  refine takeV 12 (.bool false) rfl (by kernel_rfl) (by kernel_rfl) (by kernel_rfl) (fun _ _ _ h => h) (by rfl) (fun w _ => exec_neq_same rfl (inv (fmul (a) (b))) (fmul (inv (a)) (inv (b))) rfl rfl (finv_lt _) (fmul_lt _ _) (inv_mul a b) w) hH21 ?_
  simp only [Act.put, List.setIfInBounds_toArray, List.set_cons_zero, List.set_cons_succ]
  refine takeV 13 (.bool false) rfl (by kernel_rfl) (by kernel_rfl) (by kernel_rfl) (fun _ _ _ h => h) (by rfl) (fun w _ => rfl) hH21 ?_
  simp only [Act.put, List.setIfInBounds_toArray, List.set_cons_zero, List.set_cons_succ]
  refine wpAnyH_done (by kernel_rfl) ?_ _
  refine NoPanic.normal ?_
  obtain ⟨hE22, hW22⟩ := hH21
  repeat ((fail_if_success (with_reducible show Code.wp _ (Code.region _ _ _) _ _ _)); go_step)
  apply wp_region_lit
  refine wpList_load32 rfl _ rfl _ rfl (fred (a)) (hE22 _ (.head _)) ?_
  simp only [Act.put, List.setIfInBounds_toArray, List.set_cons_zero, List.set_cons_succ]
  refine wpList_load32 rfl _ rfl _ rfl (0) (hE22 _ (.tail _ (.tail _ (.tail _ (.tail _ (.head _)))))) ?_
  simp only [Act.put, List.setIfInBounds_toArray, List.set_cons_zero, List.set_cons_succ]
  refine wpList_val (.bool false) rfl (exec_eql_apart rfl (fred (a)) (0) rfl rfl (fred_lt _) (by decide) (h0.out) _) ?_
  simp only [Act.put, List.setIfInBounds_toArray, List.set_cons_zero, List.set_cons_succ]
  apply wpList_nil
  repeat ((fail_if_success (with_reducible show Code.wp _ (Code.region _ _ _) _ _ _)); go_step)
  apply wp_region_lit
  refine wpList_load32 rfl _ rfl _ rfl (a) (hE22 _ (.tail _ (.tail _ (.tail _ (.tail _ (.tail _ (.head _))))))) ?_
  simp only [Act.put, List.setIfInBounds_toArray, List.set_cons_zero, List.set_cons_succ]
  refine wpList_load32 rfl _ rfl _ rfl (inv (a)) (hE22 _ (.tail _ (.tail _ (.tail _ (.head _))))) ?_
  simp only [Act.put, List.setIfInBounds_toArray, List.set_cons_zero, List.set_cons_succ]
  go_wp2_with fail
  refine Calls.mono (Mul_f (a) (inv (a)) ha (finv_lt _) _) ?_
  rintro e w23 ⟨rfl, hg23⟩
  dsimp only
  go_step
  have hE23 := hE22.grown hg23
  have hW23 := grown_trans hW22 hg23
  clear hE22 hW22 hg23
  go_wp2_with fail
  refine Calls.mono (number_nat 1 (by decide) 1 rfl _) ?_
  rintro e w24 ⟨rfl, hg24⟩
  dsimp only
  go_step
  have hE24 := hE23.grown hg24
  have hW24 := grown_trans hW23 hg24
  clear hE23 hW23 hg24
  refine wpList_val (.bool true) rfl (exec_eql_same rfl (fmul (a) (inv (a))) (1) rfl rfl (fmul_lt _ _) (by decide) (mul_inv h0.out) _) ?_
  simp only [Act.put, List.setIfInBounds_toArray, List.set_cons_zero, List.set_cons_succ]
  refine wpList_val (.bool true) rfl rfl ?_
  simp only [Act.put, List.setIfInBounds_toArray, List.set_cons_zero, List.set_cons_succ]
  apply wpList_nil
  repeat ((fail_if_success (with_reducible show Code.wp _ (Code.region _ _ _) _ _ _)); go_step)
  repeat go_step
  go_ret
  exact ⟨rfl, by first | assumption | exact hW24⟩
end Go.Proofs.YtfnbodpbdfeiiaaDoor
