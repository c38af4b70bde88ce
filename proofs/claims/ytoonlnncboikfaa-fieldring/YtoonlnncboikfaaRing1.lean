import Derived.Test.YtoonlnncboikfaaEng2
namespace Go.Proofs.Ytoonlnncboikfaa
open Go.RowKit Go.Shelf FieldNum

theorem ring_assoc (a b c : Nat) : ((a + b) % p + c) % p = (a + (b + c) % p) % p := by rw [Nat.mod_add_mod, Nat.add_mod_mod, Nat.add_assoc]
theorem ring_massoc (a b c : Nat) : a * b % p * c % p = a * (b * c % p) % p := by rw [Nat.mod_mul_mod, Nat.mul_mod_mod, Nat.mul_assoc]
theorem ring_dist (a b c : Nat) : a * ((b + c) % p) % p = (a * b % p + a * c % p) % p := by rw [Nat.mul_mod_mod, Nat.mul_add, ← Nat.add_mod]
theorem ring_sq (a b : Nat) : (a + b) % p * ((a + b) % p) % p = ((a * a % p + b * b % p) % p + (a * b % p + a * b % p) % p) % p := by
  rw [← Nat.mul_mod, ← Nat.add_mod]
  rw [Nat.add_mod, ← Nat.add_mod (a * a), ← Nat.add_mod (a * b), ← Nat.add_mod]
  congr 1
  rw [Nat.add_mul, Nat.mul_add, Nat.mul_add, Nat.mul_comm b a]
  omega

set_option maxRecDepth 100000 in
set_option maxHeartbeats 4000000 in
theorem ring_walk (a b c : Nat) (ha : a < M) (hb : b < M) (hc : c < M) (w : World) :
    Calls Try.prog 5 #[bv a, bv b, bv c] w fun e w' => e = .returned (.bool true) ∧ Grown w w' := by
  rw [bv, bv, bv]
  go_enter Try.func5, Try.ntmps5
  go_wp2_with fail
  obtain ⟨hE0, hW0⟩ := params3 w a b c
  generalize (((w.alloc (Obj.cells (bl a).toArray 22)).alloc (Obj.cells (bl b).toArray 22)).alloc (Obj.cells (bl c).toArray 22)) = W0 at hE0 hW0 ⊢
  refine Calls.mono (number_nat 0 (by decide) 0 rfl _) ?_
  rintro e w0 ⟨rfl, hg0⟩
  dsimp only
  go_step
  have hE00 := hE0.grown hg0
  have hW00 := grown_trans hW0 hg0
  clear hE0 hW0 hg0
  go_wp2_with (with_reducible show wpList _ _ _ ({ dst := _, op := Op.store 22 _ _, type := _, pos := _, after := _, guard := _ } :: _) _ _; refine Shut.out ?_)
  show wpList _ _ _ _ _ _
  refine wpList_store_new (0) (by simp) rfl rfl rfl rfl (fun w1 hg1 hr1 _ => ?_)
  simp only [Act.put]
  have hE1 := (hE00.grown hg1).cons hr1
  have hW1 := grown_trans hW00 hg1
  clear hE00 hW00 hg1 hr1
  apply wpList_nil
  repeat ((fail_if_success (with_reducible show Code.wp _ (Code.region _ _ _) _ _ _)); go_step)
  apply wp_region_lit
  go_wp2_with fail
  refine Calls.mono (number_nat 1 (by decide) 1 rfl _) ?_
  rintro e w2 ⟨rfl, hg2⟩
  dsimp only
  go_step
  have hE2 := hE1.grown hg2
  have hW2 := grown_trans hW1 hg2
  clear hE1 hW1 hg2
  go_wp2_with (with_reducible show wpList _ _ _ ({ dst := _, op := Op.store 22 _ _, type := _, pos := _, after := _, guard := _ } :: _) _ _; refine Shut.out ?_)
  show wpList _ _ _ _ _ _
  refine wpList_store_new (1) (by simp) rfl rfl rfl rfl (fun w3 hg3 hr3 _ => ?_)
  simp only [Act.put]
  have hE3 := (hE2.grown hg3).cons hr3
  have hW3 := grown_trans hW2 hg3
  clear hE2 hW2 hg3 hr3
  apply wpList_nil
  repeat ((fail_if_success (with_reducible show Code.wp _ (Code.region _ _ _) _ _ _)); go_step)
  apply wp_region_lit
  go_wp2_with fail
  refine Calls.mono (number_nat 2 (by decide) 2 rfl _) ?_
  rintro e w4 ⟨rfl, hg4⟩
  dsimp only
  go_step
  have hE4 := hE3.grown hg4
  have hW4 := grown_trans hW3 hg4
  clear hE3 hW3 hg4
  go_wp2_with fail
  refine Calls.mono (number_nat 3 (by decide) 3 rfl _) ?_
  rintro e w5 ⟨rfl, hg5⟩
  dsimp only
  go_step
  have hE5 := hE4.grown hg5
  have hW5 := grown_trans hW4 hg5
  clear hE4 hW4 hg5
  go_wp2_with fail
  refine Calls.mono (Mul_f (2) (3) (by decide) (by decide) _) ?_
  rintro e w6 ⟨rfl, hg6⟩
  dsimp only
  go_step
  have hE6 := hE5.grown hg6
  have hW6 := grown_trans hW5 hg6
  clear hE5 hW5 hg6
  go_wp2_with (with_reducible show wpList _ _ _ ({ dst := _, op := Op.store 22 _ _, type := _, pos := _, after := _, guard := _ } :: _) _ _; refine Shut.out ?_)
  show wpList _ _ _ _ _ _
  refine wpList_store_new (fmul (2) (3)) (by simp) rfl rfl rfl rfl (fun w7 hg7 hr7 _ => ?_)
  simp only [Act.put]
  have hE7 := (hE6.grown hg7).cons hr7
  have hW7 := grown_trans hW6 hg7
  clear hE6 hW6 hg7 hr7
  apply wpList_nil
  repeat ((fail_if_success (with_reducible show Code.wp _ (Code.region _ _ _) _ _ _)); go_step)
  refine wp_region_noPanic ?_
  refine wp_region_held_drew (S := fun w' => Holds [(w6.heap.size, fmul (2) (3)), (w2.heap.size, 1), (w0.heap.size, 0), (w.heap.size, a), (w.heap.size + 1, b), (w.heap.size + 1 + 1, c)] w' ∧ Grown w w') (by kernel_rfl) ⟨hE7, hW7⟩ (fun hH8 => ?_)
  clear hE7 hW7
  refine take32 0 (fmul (2) (3)) (w6.heap.size) rfl (by kernel_rfl) (by kernel_rfl) (by kernel_rfl) (fun _ _ _ h => h) (by rfl) rfl rfl (fun _ h => h.1 _ (.head _)) hH8 ?_
  simp only [Act.put, List.setIfInBounds_toArray, List.set_cons_zero, List.set_cons_succ]
  refine step1 1 (by kernel_rfl) rfl (fun K hK => ?_)
  rw [if_pos (by rfl)]
  go_simp
  refine Calls.mono (number_nat 6 (by decide) 6 rfl _) ?_
  rintro e w9 ⟨rfl, hg9⟩
  dsimp only
  refine hK.out _ _ (keepE hH8 hg9) (fun hH9 => ?_)
  clear hK K
  clear hH8
  clear hg9
  refine takeV 2 (.bool false) rfl (by kernel_rfl) (by kernel_rfl) (by kernel_rfl) (fun _ _ _ h => h) (by rfl) (fun w _ => exec_neq_same rfl (fmul (2) (3)) (6) rfl rfl (fmul_lt _ _) (by decide) (by decide +kernel) w) hH9 ?_
  simp only [Act.put, List.setIfInBounds_toArray, List.set_cons_zero, List.set_cons_succ]
  refine wpAnyH_done (by kernel_rfl) ?_ _
  refine NoPanic.normal ?_
  obtain ⟨hE10, hW10⟩ := hH9
  repeat ((fail_if_success (with_reducible show Code.wp _ (Code.region _ _ _) _ _ _)); go_step)
  apply wp_region_lit
  refine wpList_load32 rfl _ rfl _ rfl (a) (hE10 _ (.tail _ (.tail _ (.tail _ (.head _))))) ?_
  simp only [Act.put, List.setIfInBounds_toArray, List.set_cons_zero, List.set_cons_succ]
  refine wpList_load32 rfl _ rfl _ rfl (b) (hE10 _ (.tail _ (.tail _ (.tail _ (.tail _ (.head _)))))) ?_
  simp only [Act.put, List.setIfInBounds_toArray, List.set_cons_zero, List.set_cons_succ]
  go_wp2_with fail
  refine Calls.mono (Add_f (a) (b) ha hb _) ?_
  rintro e w11 ⟨rfl, hg11⟩
  dsimp only
  go_step
  have hE11 := hE10.grown hg11
  have hW11 := grown_trans hW10 hg11
  clear hE10 hW10 hg11
  go_wp2_with (with_reducible show wpList _ _ _ ({ dst := _, op := Op.store 22 _ _, type := _, pos := _, after := _, guard := _ } :: _) _ _; refine Shut.out ?_)
  show wpList _ _ _ _ _ _
  refine wpList_store_new (fadd (a) (b)) (by simp) rfl rfl rfl rfl (fun w12 hg12 hr12 _ => ?_)
  simp only [Act.put]
  have hE12 := (hE11.grown hg12).cons hr12
  have hW12 := grown_trans hW11 hg12
  clear hE11 hW11 hg12 hr12
  apply wpList_nil
  repeat ((fail_if_success (with_reducible show Code.wp _ (Code.region _ _ _) _ _ _)); go_step)
  apply wp_region_lit
  refine wpList_load32 rfl _ rfl _ rfl (b) (hE12 _ (.tail _ (.tail _ (.tail _ (.tail _ (.tail _ (.head _))))))) ?_
  simp only [Act.put, List.setIfInBounds_toArray, List.set_cons_zero, List.set_cons_succ]
  refine wpList_load32 rfl _ rfl _ rfl (c) (hE12 _ (.tail _ (.tail _ (.tail _ (.tail _ (.tail _ (.tail _ (.head _)))))))) ?_
  simp only [Act.put, List.setIfInBounds_toArray, List.set_cons_zero, List.set_cons_succ]
  go_wp2_with fail
  refine Calls.mono (Add_f (b) (c) hb hc _) ?_
  rintro e w13 ⟨rfl, hg13⟩
  dsimp only
  go_step
  have hE13 := hE12.grown hg13
  have hW13 := grown_trans hW12 hg13
  clear hE12 hW12 hg13
  go_wp2_with (with_reducible show wpList _ _ _ ({ dst := _, op := Op.store 22 _ _, type := _, pos := _, after := _, guard := _ } :: _) _ _; refine Shut.out ?_)
  show wpList _ _ _ _ _ _
  refine wpList_store_new (fadd (b) (c)) (by simp) rfl rfl rfl rfl (fun w14 hg14 hr14 _ => ?_)
  simp only [Act.put]
  have hE14 := (hE13.grown hg14).cons hr14
  have hW14 := grown_trans hW13 hg14
  clear hE13 hW13 hg14 hr14
  apply wpList_nil
  repeat ((fail_if_success (with_reducible show Code.wp _ (Code.region _ _ _) _ _ _)); go_step)
  refine wp_region_noPanic ?_
  refine wp_region_held_drew (S := fun w' => Holds [(w13.heap.size, fadd (b) (c)), (w11.heap.size, fadd (a) (b)), (w6.heap.size, fmul (2) (3)), (w2.heap.size, 1), (w0.heap.size, 0), (w.heap.size, a), (w.heap.size + 1, b), (w.heap.size + 1 + 1, c)] w' ∧ Grown w w') (by kernel_rfl) ⟨hE14, hW14⟩ (fun hH15 => ?_)
  clear hE14 hW14
  refine take32 0 (fadd (a) (b)) (w11.heap.size) rfl (by kernel_rfl) (by kernel_rfl) (by kernel_rfl) (fun _ _ _ h => h) (by rfl) rfl rfl (fun _ h => h.1 _ (.tail _ (.head _))) hH15 ?_
  simp only [Act.put, List.setIfInBounds_toArray, List.set_cons_zero, List.set_cons_succ]
  refine take32 1 (b) (w.heap.size + 1) rfl (by kernel_rfl) (by kernel_rfl) (by kernel_rfl) (fun _ _ _ h => h) (by rfl) rfl rfl (fun _ h => h.1 _ (.tail _ (.tail _ (.tail _ (.tail _ (.tail _ (.tail _ (.head _)))))))) hH15 ?_
  simp only [Act.put, List.setIfInBounds_toArray, List.set_cons_zero, List.set_cons_succ]
  refine take32 2 (a) (w.heap.size) rfl (by kernel_rfl) (by kernel_rfl) (by kernel_rfl) (fun _ _ _ h => h) (by rfl) rfl rfl (fun _ h => h.1 _ (.tail _ (.tail _ (.tail _ (.tail _ (.tail _ (.head _))))))) hH15 ?_
  simp only [Act.put, List.setIfInBounds_toArray, List.set_cons_zero, List.set_cons_succ]
  refine step1 3 (by kernel_rfl) rfl (fun K hK => ?_)
  rw [if_pos (by rfl)]
  go_simp
  refine Calls.mono (Add_f (b) (a) hb ha _) ?_
  rintro e w16 ⟨rfl, hg16⟩
  dsimp only
  refine hK.out _ _ (keepE hH15 hg16) (fun hH16 => ?_)
  clear hK K
  clear hH15
  clear hg16
  refine takeV 4 (.bool false) rfl (by kernel_rfl) (by kernel_rfl) (by kernel_rfl) (fun _ _ _ h => h) (by rfl) (fun w _ => exec_neq_same rfl (fadd (a) (b)) (fadd (b) (a)) rfl rfl (fadd_lt _ _) (fadd_lt _ _) (by unfold fadd; rw [Nat.add_comm]) w) hH16 ?_
  simp only [Act.put, List.setIfInBounds_toArray, List.set_cons_zero, List.set_cons_succ]
  refine takeV 5 (.bool false) rfl (by kernel_rfl) (by kernel_rfl) (by kernel_rfl) (fun _ _ _ h => h) (by rfl) (fun w _ => rfl) hH16 ?_
  simp only [Act.put, List.setIfInBounds_toArray, List.set_cons_zero, List.set_cons_succ]
  refine take32 6 (fadd (a) (b)) (w11.heap.size) rfl (by kernel_rfl) (by kernel_rfl) (by kernel_rfl) (fun _ _ _ h => h) (by rfl) rfl rfl (fun _ h => h.1 _ (.tail _ (.head _))) hH16 ?_
  simp only [Act.put, List.setIfInBounds_toArray, List.set_cons_zero, List.set_cons_succ]
  refine take32 7 (c) (w.heap.size + 1 + 1) rfl (by kernel_rfl) (by kernel_rfl) (by kernel_rfl) (fun _ _ _ h => h) (by rfl) rfl rfl (fun _ h => h.1 _ (.tail _ (.tail _ (.tail _ (.tail _ (.tail _ (.tail _ (.tail _ (.head _))))))))) hH16 ?_
  simp only [Act.put, List.setIfInBounds_toArray, List.set_cons_zero, List.set_cons_succ]
  refine take32 9 (a) (w.heap.size) rfl (by kernel_rfl) (by kernel_rfl) (by kernel_rfl) (fun _ _ _ h => h) (by rfl) rfl rfl (fun _ h => h.1 _ (.tail _ (.tail _ (.tail _ (.tail _ (.tail _ (.head _))))))) hH16 ?_
  simp only [Act.put, List.setIfInBounds_toArray, List.set_cons_zero, List.set_cons_succ]
  refine take32 10 (fadd (b) (c)) (w13.heap.size) rfl (by kernel_rfl) (by kernel_rfl) (by kernel_rfl) (fun _ _ _ h => h) (by rfl) rfl rfl (fun _ h => h.1 _ (.head _)) hH16 ?_
  simp only [Act.put, List.setIfInBounds_toArray, List.set_cons_zero, List.set_cons_succ]
  refine step1 8 (by kernel_rfl) rfl (fun K hK => ?_)
  rw [if_pos (by rfl)]
  go_simp
  refine Calls.mono (Add_f (fadd (a) (b)) (c) (fadd_lt _ _) hc _) ?_
  rintro e w17 ⟨rfl, hg17⟩
  dsimp only
  refine hK.out _ _ (keepE hH16 hg17) (fun hH17 => ?_)
  clear hK K
  clear hH16
  clear hg17
  refine step1 11 (by kernel_rfl) rfl (fun K hK => ?_)
  rw [if_pos (by rfl)]
  go_simp
  refine Calls.mono (Add_f (a) (fadd (b) (c)) ha (fadd_lt _ _) _) ?_
  rintro e w18 ⟨rfl, hg18⟩
  dsimp only
  refine hK.out _ _ (keepE hH17 hg18) (fun hH18 => ?_)
  clear hK K
  clear hH17
  clear hg18
  refine takeV 12 (.bool false) rfl (by kernel_rfl) (by kernel_rfl) (by kernel_rfl) (fun _ _ _ h => h) (by rfl) (fun w _ => exec_neq_same rfl (fadd (fadd (a) (b)) (c)) (fadd (a) (fadd (b) (c))) rfl rfl (fadd_lt _ _) (fadd_lt _ _) (ring_assoc a b c) w) hH18 ?_
  simp only [Act.put, List.setIfInBounds_toArray, List.set_cons_zero, List.set_cons_succ]
  refine takeV 13 (.bool false) rfl (by kernel_rfl) (by kernel_rfl) (by kernel_rfl) (fun _ _ _ h => h) (by rfl) (fun w _ => rfl) hH18 ?_
  simp only [Act.put, List.setIfInBounds_toArray, List.set_cons_zero, List.set_cons_succ]
  refine takeV 14 (.bool false) rfl (by kernel_rfl) (by kernel_rfl) (by kernel_rfl) (fun _ _ _ h => h) (by rfl) (fun w _ => rfl) hH18 ?_
  simp only [Act.put, List.setIfInBounds_toArray, List.set_cons_zero, List.set_cons_succ]
  refine take32 15 (a) (w.heap.size) rfl (by kernel_rfl) (by kernel_rfl) (by kernel_rfl) (fun _ _ _ h => h) (by rfl) rfl rfl (fun _ h => h.1 _ (.tail _ (.tail _ (.tail _ (.tail _ (.tail _ (.head _))))))) hH18 ?_
  simp only [Act.put, List.setIfInBounds_toArray, List.set_cons_zero, List.set_cons_succ]
  refine take32 16 (0) (w0.heap.size) rfl (by kernel_rfl) (by kernel_rfl) (by kernel_rfl) (fun _ _ _ h => h) (by rfl) rfl rfl (fun _ h => h.1 _ (.tail _ (.tail _ (.tail _ (.tail _ (.head _)))))) hH18 ?_
  simp only [Act.put, List.setIfInBounds_toArray, List.set_cons_zero, List.set_cons_succ]
  refine take32 18 (a) (w.heap.size) rfl (by kernel_rfl) (by kernel_rfl) (by kernel_rfl) (fun _ _ _ h => h) (by rfl) rfl rfl (fun _ h => h.1 _ (.tail _ (.tail _ (.tail _ (.tail _ (.tail _ (.head _))))))) hH18 ?_
  simp only [Act.put, List.setIfInBounds_toArray, List.set_cons_zero, List.set_cons_succ]
  refine step1 17 (by kernel_rfl) rfl (fun K hK => ?_)
  rw [if_pos (by rfl)]
  go_simp
  refine Calls.mono (Add_f (a) (0) ha (by decide) _) ?_
  rintro e w19 ⟨rfl, hg19⟩
  dsimp only
  refine hK.out _ _ (keepE hH18 hg19) (fun hH19 => ?_)
  clear hK K
  clear hH18
  clear hg19
  refine step1 19 (by kernel_rfl) rfl (fun K hK => ?_)
  rw [if_pos (by rfl)]
  go_simp
  refine Calls.mono (Reduce_f (a) ha _) ?_
  rintro e w20 ⟨rfl, hg20⟩
  dsimp only
  refine hK.out _ _ (keepE hH19 hg20) (fun hH20 => ?_)
  clear hK K
  clear hH19
  clear hg20
  refine takeV 20 (.bool false) rfl (by kernel_rfl) (by kernel_rfl) (by kernel_rfl) (fun _ _ _ h => h) (by rfl) (fun w _ => exec_neq_same rfl (fadd (a) (0)) (fred (a)) rfl rfl (fadd_lt _ _) (fred_lt _) (by unfold fadd fred; rw [Nat.add_zero]) w) hH20 ?_
  simp only [Act.put, List.setIfInBounds_toArray, List.set_cons_zero, List.set_cons_succ]
  refine takeV 21 (.bool false) rfl (by kernel_rfl) (by kernel_rfl) (by kernel_rfl) (fun _ _ _ h => h) (by rfl) (fun w _ => rfl) hH20 ?_
  simp only [Act.put, List.setIfInBounds_toArray, List.set_cons_zero, List.set_cons_succ]
  refine wpAnyH_done (by kernel_rfl) ?_ _
  refine NoPanic.normal ?_
  obtain ⟨hE21, hW21⟩ := hH20
  repeat ((fail_if_success (with_reducible show Code.wp _ (Code.region _ _ _) _ _ _)); go_step)
  refine wp_region_noPanic ?_
  refine wp_region_held_drew (S := fun w' => Holds [(w13.heap.size, fadd (b) (c)), (w11.heap.size, fadd (a) (b)), (w6.heap.size, fmul (2) (3)), (w2.heap.size, 1), (w0.heap.size, 0), (w.heap.size, a), (w.heap.size + 1, b), (w.heap.size + 1 + 1, c)] w' ∧ Grown w w') (by kernel_rfl) ⟨hE21, hW21⟩ (fun hH22 => ?_)
  clear hE21 hW21
  refine take32 0 (fadd (a) (b)) (w11.heap.size) rfl (by kernel_rfl) (by kernel_rfl) (by kernel_rfl) (fun _ _ _ h => h) (by rfl) rfl rfl (fun _ h => h.1 _ (.tail _ (.head _))) hH22 ?_
  simp only [Act.put, List.setIfInBounds_toArray, List.set_cons_zero, List.set_cons_succ]
  refine take32 1 (b) (w.heap.size + 1) rfl (by kernel_rfl) (by kernel_rfl) (by kernel_rfl) (fun _ _ _ h => h) (by rfl) rfl rfl (fun _ h => h.1 _ (.tail _ (.tail _ (.tail _ (.tail _ (.tail _ (.tail _ (.head _)))))))) hH22 ?_
  simp only [Act.put, List.setIfInBounds_toArray, List.set_cons_zero, List.set_cons_succ]
  refine take32 3 (a) (w.heap.size) rfl (by kernel_rfl) (by kernel_rfl) (by kernel_rfl) (fun _ _ _ h => h) (by rfl) rfl rfl (fun _ h => h.1 _ (.tail _ (.tail _ (.tail _ (.tail _ (.tail _ (.head _))))))) hH22 ?_
  simp only [Act.put, List.setIfInBounds_toArray, List.set_cons_zero, List.set_cons_succ]
  refine step1 2 (by kernel_rfl) rfl (fun K hK => ?_)
  rw [if_pos (by rfl)]
  go_simp
  refine Calls.mono (Sub_any (fadd (a) (b)) (b) (fadd_lt _ _) hb _) ?_
  rintro e w23 ⟨rfl, hg23⟩
  dsimp only
  refine hK.out _ _ (keepE hH22 hg23) (fun hH23 => ?_)
  clear hK K
  clear hH22
  clear hg23
  refine step1 4 (by kernel_rfl) rfl (fun K hK => ?_)
  rw [if_pos (by rfl)]
  go_simp
  refine Calls.mono (Reduce_f (a) ha _) ?_
  rintro e w24 ⟨rfl, hg24⟩
  dsimp only
  refine hK.out _ _ (keepE hH23 hg24) (fun hH24 => ?_)
  clear hK K
  clear hH23
  clear hg24
  refine takeV 5 (.bool false) rfl (by kernel_rfl) (by kernel_rfl) (by kernel_rfl) (fun _ _ _ h => h) (by rfl) (fun w _ => exec_neq_same rfl (sb (fadd (a) (b)) (b)) (fred (a)) rfl rfl (fsb_lt _ _) (fred_lt _) (sub_back a b) w) hH24 ?_
  simp only [Act.put, List.setIfInBounds_toArray, List.set_cons_zero, List.set_cons_succ]
  refine takeV 6 (.bool false) rfl (by kernel_rfl) (by kernel_rfl) (by kernel_rfl) (fun _ _ _ h => h) (by rfl) (fun w _ => rfl) hH24 ?_
  simp only [Act.put, List.setIfInBounds_toArray, List.set_cons_zero, List.set_cons_succ]
  refine take32 7 (a) (w.heap.size) rfl (by kernel_rfl) (by kernel_rfl) (by kernel_rfl) (fun _ _ _ h => h) (by rfl) rfl rfl (fun _ h => h.1 _ (.tail _ (.tail _ (.tail _ (.tail _ (.tail _ (.head _))))))) hH24 ?_
  simp only [Act.put, List.setIfInBounds_toArray, List.set_cons_zero, List.set_cons_succ]
  refine take32 9 (0) (w0.heap.size) rfl (by kernel_rfl) (by kernel_rfl) (by kernel_rfl) (fun _ _ _ h => h) (by rfl) rfl rfl (fun _ h => h.1 _ (.tail _ (.tail _ (.tail _ (.tail _ (.head _)))))) hH24 ?_
  simp only [Act.put, List.setIfInBounds_toArray, List.set_cons_zero, List.set_cons_succ]
  refine take32 10 (a) (w.heap.size) rfl (by kernel_rfl) (by kernel_rfl) (by kernel_rfl) (fun _ _ _ h => h) (by rfl) rfl rfl (fun _ h => h.1 _ (.tail _ (.tail _ (.tail _ (.tail _ (.tail _ (.head _))))))) hH24 ?_
  simp only [Act.put, List.setIfInBounds_toArray, List.set_cons_zero, List.set_cons_succ]
  refine step1 8 (by kernel_rfl) rfl (fun K hK => ?_)
  rw [if_pos (by rfl)]
  go_simp
  refine Calls.mono (Neg_any (a) ha _) ?_
  rintro e w25 ⟨rfl, hg25⟩
  dsimp only
  refine hK.out _ _ (keepE hH24 hg25) (fun hH25 => ?_)
  clear hK K
  clear hH24
  clear hg25
  refine step1 11 (by kernel_rfl) rfl (fun K hK => ?_)
  rw [if_pos (by rfl)]
  go_simp
  refine Calls.mono (Sub_any (0) (a) (by decide) ha _) ?_
  rintro e w26 ⟨rfl, hg26⟩
  dsimp only
  refine hK.out _ _ (keepE hH25 hg26) (fun hH26 => ?_)
  clear hK K
  clear hH25
  clear hg26
  refine takeV 12 (.bool false) rfl (by kernel_rfl) (by kernel_rfl) (by kernel_rfl) (fun _ _ _ h => h) (by rfl) (fun w _ => exec_neq_same rfl (ng (a)) (sb (0) (a)) rfl rfl (fng_lt _) (fsb_lt _ _) (rfl) w) hH26 ?_
  simp only [Act.put, List.setIfInBounds_toArray, List.set_cons_zero, List.set_cons_succ]
  refine takeV 13 (.bool false) rfl (by kernel_rfl) (by kernel_rfl) (by kernel_rfl) (fun _ _ _ h => h) (by rfl) (fun w _ => rfl) hH26 ?_
  simp only [Act.put, List.setIfInBounds_toArray, List.set_cons_zero, List.set_cons_succ]
  refine takeV 14 (.bool false) rfl (by kernel_rfl) (by kernel_rfl) (by kernel_rfl) (fun _ _ _ h => h) (by rfl) (fun w _ => rfl) hH26 ?_
  simp only [Act.put, List.setIfInBounds_toArray, List.set_cons_zero, List.set_cons_succ]
  refine take32 15 (a) (w.heap.size) rfl (by kernel_rfl) (by kernel_rfl) (by kernel_rfl) (fun _ _ _ h => h) (by rfl) rfl rfl (fun _ h => h.1 _ (.tail _ (.tail _ (.tail _ (.tail _ (.tail _ (.head _))))))) hH26 ?_
  simp only [Act.put, List.setIfInBounds_toArray, List.set_cons_zero, List.set_cons_succ]
  refine take32 16 (a) (w.heap.size) rfl (by kernel_rfl) (by kernel_rfl) (by kernel_rfl) (fun _ _ _ h => h) (by rfl) rfl rfl (fun _ h => h.1 _ (.tail _ (.tail _ (.tail _ (.tail _ (.tail _ (.head _))))))) hH26 ?_
  simp only [Act.put, List.setIfInBounds_toArray, List.set_cons_zero, List.set_cons_succ]
  refine take32 19 (0) (w0.heap.size) rfl (by kernel_rfl) (by kernel_rfl) (by kernel_rfl) (fun _ _ _ h => h) (by rfl) rfl rfl (fun _ h => h.1 _ (.tail _ (.tail _ (.tail _ (.tail _ (.head _)))))) hH26 ?_
  simp only [Act.put, List.setIfInBounds_toArray, List.set_cons_zero, List.set_cons_succ]
  refine step1 17 (by kernel_rfl) rfl (fun K hK => ?_)
  rw [if_pos (by rfl)]
  go_simp
  refine Calls.mono (Neg_any (a) ha _) ?_
  rintro e w27 ⟨rfl, hg27⟩
  dsimp only
  refine hK.out _ _ (keepE hH26 hg27) (fun hH27 => ?_)
  clear hK K
  clear hH26
  clear hg27
  refine step1 18 (by kernel_rfl) rfl (fun K hK => ?_)
  rw [if_pos (by rfl)]
  go_simp
  refine Calls.mono (Add_f (a) (ng (a)) ha (fng_lt _) _) ?_
  rintro e w28 ⟨rfl, hg28⟩
  dsimp only
  refine hK.out _ _ (keepE hH27 hg28) (fun hH28 => ?_)
  clear hK K
  clear hH27
  clear hg28
  refine takeV 20 (.bool false) rfl (by kernel_rfl) (by kernel_rfl) (by kernel_rfl) (fun _ _ _ h => h) (by rfl) (fun w _ => exec_neq_same rfl (fadd (a) (ng (a))) (0) rfl rfl (fadd_lt _ _) (by decide) (add_ng a) w) hH28 ?_
  simp only [Act.put, List.setIfInBounds_toArray, List.set_cons_zero, List.set_cons_succ]
  refine takeV 21 (.bool false) rfl (by kernel_rfl) (by kernel_rfl) (by kernel_rfl) (fun _ _ _ h => h) (by rfl) (fun w _ => rfl) hH28 ?_
  simp only [Act.put, List.setIfInBounds_toArray, List.set_cons_zero, List.set_cons_succ]
  refine wpAnyH_done (by kernel_rfl) ?_ _
  refine NoPanic.normal ?_
  obtain ⟨hE29, hW29⟩ := hH28
  repeat ((fail_if_success (with_reducible show Code.wp _ (Code.region _ _ _) _ _ _)); go_step)
  apply wp_region_lit
  refine wpList_load32 rfl _ rfl _ rfl (a) (hE29 _ (.tail _ (.tail _ (.tail _ (.tail _ (.tail _ (.head _))))))) ?_
  simp only [Act.put, List.setIfInBounds_toArray, List.set_cons_zero, List.set_cons_succ]
  refine wpList_load32 rfl _ rfl _ rfl (b) (hE29 _ (.tail _ (.tail _ (.tail _ (.tail _ (.tail _ (.tail _ (.head _)))))))) ?_
  simp only [Act.put, List.setIfInBounds_toArray, List.set_cons_zero, List.set_cons_succ]
  go_wp2_with fail
  refine Calls.mono (Mul_f (a) (b) ha hb _) ?_
  rintro e w30 ⟨rfl, hg30⟩
  dsimp only
  go_step
  have hE30 := hE29.grown hg30
  have hW30 := grown_trans hW29 hg30
  clear hE29 hW29 hg30
  go_wp2_with (with_reducible show wpList _ _ _ ({ dst := _, op := Op.store 22 _ _, type := _, pos := _, after := _, guard := _ } :: _) _ _; refine Shut.out ?_)
  show wpList _ _ _ _ _ _
  refine wpList_store_new (fmul (a) (b)) (by simp) rfl rfl rfl rfl (fun w31 hg31 hr31 _ => ?_)
  simp only [Act.put]
  have hE31 := (hE30.grown hg31).cons hr31
  have hW31 := grown_trans hW30 hg31
  clear hE30 hW30 hg31 hr31
  apply wpList_nil
  repeat ((fail_if_success (with_reducible show Code.wp _ (Code.region _ _ _) _ _ _)); go_step)
  apply wp_region_lit
  refine wpList_load32 rfl _ rfl _ rfl (b) (hE31 _ (.tail _ (.tail _ (.tail _ (.tail _ (.tail _ (.tail _ (.tail _ (.head _))))))))) ?_
  simp only [Act.put, List.setIfInBounds_toArray, List.set_cons_zero, List.set_cons_succ]
  refine wpList_load32 rfl _ rfl _ rfl (c) (hE31 _ (.tail _ (.tail _ (.tail _ (.tail _ (.tail _ (.tail _ (.tail _ (.tail _ (.head _)))))))))) ?_
  simp only [Act.put, List.setIfInBounds_toArray, List.set_cons_zero, List.set_cons_succ]
  go_wp2_with fail
  refine Calls.mono (Mul_f (b) (c) hb hc _) ?_
  rintro e w32 ⟨rfl, hg32⟩
  dsimp only
  go_step
  have hE32 := hE31.grown hg32
  have hW32 := grown_trans hW31 hg32
  clear hE31 hW31 hg32
  go_wp2_with (with_reducible show wpList _ _ _ ({ dst := _, op := Op.store 22 _ _, type := _, pos := _, after := _, guard := _ } :: _) _ _; refine Shut.out ?_)
  show wpList _ _ _ _ _ _
  refine wpList_store_new (fmul (b) (c)) (by simp) rfl rfl rfl rfl (fun w33 hg33 hr33 _ => ?_)
  simp only [Act.put]
  have hE33 := (hE32.grown hg33).cons hr33
  have hW33 := grown_trans hW32 hg33
  clear hE32 hW32 hg33 hr33
  apply wpList_nil
  repeat ((fail_if_success (with_reducible show Code.wp _ (Code.region _ _ _) _ _ _)); go_step)
  refine wp_region_noPanic ?_
  refine wp_region_held_drew (S := fun w' => Holds [(w32.heap.size, fmul (b) (c)), (w30.heap.size, fmul (a) (b)), (w13.heap.size, fadd (b) (c)), (w11.heap.size, fadd (a) (b)), (w6.heap.size, fmul (2) (3)), (w2.heap.size, 1), (w0.heap.size, 0), (w.heap.size, a), (w.heap.size + 1, b), (w.heap.size + 1 + 1, c)] w' ∧ Grown w w') (by kernel_rfl) ⟨hE33, hW33⟩ (fun hH34 => ?_)
  clear hE33 hW33
  refine take32 0 (fmul (a) (b)) (w30.heap.size) rfl (by kernel_rfl) (by kernel_rfl) (by kernel_rfl) (fun _ _ _ h => h) (by rfl) rfl rfl (fun _ h => h.1 _ (.tail _ (.head _))) hH34 ?_
  simp only [Act.put, List.setIfInBounds_toArray, List.set_cons_zero, List.set_cons_succ]
  refine take32 1 (b) (w.heap.size + 1) rfl (by kernel_rfl) (by kernel_rfl) (by kernel_rfl) (fun _ _ _ h => h) (by rfl) rfl rfl (fun _ h => h.1 _ (.tail _ (.tail _ (.tail _ (.tail _ (.tail _ (.tail _ (.tail _ (.tail _ (.head _)))))))))) hH34 ?_
  simp only [Act.put, List.setIfInBounds_toArray, List.set_cons_zero, List.set_cons_succ]
  refine take32 2 (a) (w.heap.size) rfl (by kernel_rfl) (by kernel_rfl) (by kernel_rfl) (fun _ _ _ h => h) (by rfl) rfl rfl (fun _ h => h.1 _ (.tail _ (.tail _ (.tail _ (.tail _ (.tail _ (.tail _ (.tail _ (.head _))))))))) hH34 ?_
  simp only [Act.put, List.setIfInBounds_toArray, List.set_cons_zero, List.set_cons_succ]
  refine step1 3 (by kernel_rfl) rfl (fun K hK => ?_)
  rw [if_pos (by rfl)]
  go_simp
  refine Calls.mono (Mul_f (b) (a) hb ha _) ?_
  rintro e w35 ⟨rfl, hg35⟩
  dsimp only
  refine hK.out _ _ (keepE hH34 hg35) (fun hH35 => ?_)
  clear hK K
  clear hH34
  clear hg35
  refine takeV 4 (.bool false) rfl (by kernel_rfl) (by kernel_rfl) (by kernel_rfl) (fun _ _ _ h => h) (by rfl) (fun w _ => exec_neq_same rfl (fmul (a) (b)) (fmul (b) (a)) rfl rfl (fmul_lt _ _) (fmul_lt _ _) (by unfold fmul; rw [Nat.mul_comm]) w) hH35 ?_
  simp only [Act.put, List.setIfInBounds_toArray, List.set_cons_zero, List.set_cons_succ]
  refine takeV 5 (.bool false) rfl (by kernel_rfl) (by kernel_rfl) (by kernel_rfl) (fun _ _ _ h => h) (by rfl) (fun w _ => rfl) hH35 ?_
  simp only [Act.put, List.setIfInBounds_toArray, List.set_cons_zero, List.set_cons_succ]
  refine take32 6 (fmul (a) (b)) (w30.heap.size) rfl (by kernel_rfl) (by kernel_rfl) (by kernel_rfl) (fun _ _ _ h => h) (by rfl) rfl rfl (fun _ h => h.1 _ (.tail _ (.head _))) hH35 ?_
  simp only [Act.put, List.setIfInBounds_toArray, List.set_cons_zero, List.set_cons_succ]
  refine take32 7 (c) (w.heap.size + 1 + 1) rfl (by kernel_rfl) (by kernel_rfl) (by kernel_rfl) (fun _ _ _ h => h) (by rfl) rfl rfl (fun _ h => h.1 _ (.tail _ (.tail _ (.tail _ (.tail _ (.tail _ (.tail _ (.tail _ (.tail _ (.tail _ (.head _))))))))))) hH35 ?_
  simp only [Act.put, List.setIfInBounds_toArray, List.set_cons_zero, List.set_cons_succ]
  refine take32 9 (a) (w.heap.size) rfl (by kernel_rfl) (by kernel_rfl) (by kernel_rfl) (fun _ _ _ h => h) (by rfl) rfl rfl (fun _ h => h.1 _ (.tail _ (.tail _ (.tail _ (.tail _ (.tail _ (.tail _ (.tail _ (.head _))))))))) hH35 ?_
  simp only [Act.put, List.setIfInBounds_toArray, List.set_cons_zero, List.set_cons_succ]
  refine take32 10 (fmul (b) (c)) (w32.heap.size) rfl (by kernel_rfl) (by kernel_rfl) (by kernel_rfl) (fun _ _ _ h => h) (by rfl) rfl rfl (fun _ h => h.1 _ (.head _)) hH35 ?_
  simp only [Act.put, List.setIfInBounds_toArray, List.set_cons_zero, List.set_cons_succ]
  refine step1 8 (by kernel_rfl) rfl (fun K hK => ?_)
  rw [if_pos (by rfl)]
  go_simp
  refine Calls.mono (Mul_f (fmul (a) (b)) (c) (fmul_lt _ _) hc _) ?_
  rintro e w36 ⟨rfl, hg36⟩
  dsimp only
  refine hK.out _ _ (keepE hH35 hg36) (fun hH36 => ?_)
  clear hK K
  clear hH35
  clear hg36
  refine step1 11 (by kernel_rfl) rfl (fun K hK => ?_)
  rw [if_pos (by rfl)]
  go_simp
  refine Calls.mono (Mul_f (a) (fmul (b) (c)) ha (fmul_lt _ _) _) ?_
  rintro e w37 ⟨rfl, hg37⟩
  dsimp only
  refine hK.out _ _ (keepE hH36 hg37) (fun hH37 => ?_)
  clear hK K
  clear hH36
  clear hg37
  refine takeV 12 (.bool false) rfl (by kernel_rfl) (by kernel_rfl) (by kernel_rfl) (fun _ _ _ h => h) (by rfl) (fun w _ => exec_neq_same rfl (fmul (fmul (a) (b)) (c)) (fmul (a) (fmul (b) (c))) rfl rfl (fmul_lt _ _) (fmul_lt _ _) (ring_massoc a b c) w) hH37 ?_
  simp only [Act.put, List.setIfInBounds_toArray, List.set_cons_zero, List.set_cons_succ]
  refine takeV 13 (.bool false) rfl (by kernel_rfl) (by kernel_rfl) (by kernel_rfl) (fun _ _ _ h => h) (by rfl) (fun w _ => rfl) hH37 ?_
  simp only [Act.put, List.setIfInBounds_toArray, List.set_cons_zero, List.set_cons_succ]
  refine takeV 14 (.bool false) rfl (by kernel_rfl) (by kernel_rfl) (by kernel_rfl) (fun _ _ _ h => h) (by rfl) (fun w _ => rfl) hH37 ?_
  simp only [Act.put, List.setIfInBounds_toArray, List.set_cons_zero, List.set_cons_succ]
  refine take32 15 (a) (w.heap.size) rfl (by kernel_rfl) (by kernel_rfl) (by kernel_rfl) (fun _ _ _ h => h) (by rfl) rfl rfl (fun _ h => h.1 _ (.tail _ (.tail _ (.tail _ (.tail _ (.tail _ (.tail _ (.tail _ (.head _))))))))) hH37 ?_
  simp only [Act.put, List.setIfInBounds_toArray, List.set_cons_zero, List.set_cons_succ]
  refine take32 16 (1) (w2.heap.size) rfl (by kernel_rfl) (by kernel_rfl) (by kernel_rfl) (fun _ _ _ h => h) (by rfl) rfl rfl (fun _ h => h.1 _ (.tail _ (.tail _ (.tail _ (.tail _ (.tail _ (.head _))))))) hH37 ?_
  simp only [Act.put, List.setIfInBounds_toArray, List.set_cons_zero, List.set_cons_succ]
  refine take32 18 (a) (w.heap.size) rfl (by kernel_rfl) (by kernel_rfl) (by kernel_rfl) (fun _ _ _ h => h) (by rfl) rfl rfl (fun _ h => h.1 _ (.tail _ (.tail _ (.tail _ (.tail _ (.tail _ (.tail _ (.tail _ (.head _))))))))) hH37 ?_
  simp only [Act.put, List.setIfInBounds_toArray, List.set_cons_zero, List.set_cons_succ]
  refine step1 17 (by kernel_rfl) rfl (fun K hK => ?_)
  rw [if_pos (by rfl)]
  go_simp
  refine Calls.mono (Mul_f (a) (1) ha (by decide) _) ?_
  rintro e w38 ⟨rfl, hg38⟩
  dsimp only
  refine hK.out _ _ (keepE hH37 hg38) (fun hH38 => ?_)
  clear hK K
  clear hH37
  clear hg38
  refine step1 19 (by kernel_rfl) rfl (fun K hK => ?_)
  rw [if_pos (by rfl)]
  go_simp
  refine Calls.mono (Reduce_f (a) ha _) ?_
  rintro e w39 ⟨rfl, hg39⟩
  dsimp only
  refine hK.out _ _ (keepE hH38 hg39) (fun hH39 => ?_)
  clear hK K
  clear hH38
  clear hg39
  refine takeV 20 (.bool false) rfl (by kernel_rfl) (by kernel_rfl) (by kernel_rfl) (fun _ _ _ h => h) (by rfl) (fun w _ => exec_neq_same rfl (fmul (a) (1)) (fred (a)) rfl rfl (fmul_lt _ _) (fred_lt _) (by unfold fmul fred; rw [Nat.mul_one]) w) hH39 ?_
  simp only [Act.put, List.setIfInBounds_toArray, List.set_cons_zero, List.set_cons_succ]
  refine takeV 21 (.bool false) rfl (by kernel_rfl) (by kernel_rfl) (by kernel_rfl) (fun _ _ _ h => h) (by rfl) (fun w _ => rfl) hH39 ?_
  simp only [Act.put, List.setIfInBounds_toArray, List.set_cons_zero, List.set_cons_succ]
  refine takeV 22 (.bool false) rfl (by kernel_rfl) (by kernel_rfl) (by kernel_rfl) (fun _ _ _ h => h) (by rfl) (fun w _ => rfl) hH39 ?_
  simp only [Act.put, List.setIfInBounds_toArray, List.set_cons_zero, List.set_cons_succ]
  refine take32 23 (a) (w.heap.size) rfl (by kernel_rfl) (by kernel_rfl) (by kernel_rfl) (fun _ _ _ h => h) (by rfl) rfl rfl (fun _ h => h.1 _ (.tail _ (.tail _ (.tail _ (.tail _ (.tail _ (.tail _ (.tail _ (.head _))))))))) hH39 ?_
  simp only [Act.put, List.setIfInBounds_toArray, List.set_cons_zero, List.set_cons_succ]
  refine take32 24 (0) (w0.heap.size) rfl (by kernel_rfl) (by kernel_rfl) (by kernel_rfl) (fun _ _ _ h => h) (by rfl) rfl rfl (fun _ h => h.1 _ (.tail _ (.tail _ (.tail _ (.tail _ (.tail _ (.tail _ (.head _)))))))) hH39 ?_
  simp only [Act.put, List.setIfInBounds_toArray, List.set_cons_zero, List.set_cons_succ]
  refine take32 26 (0) (w0.heap.size) rfl (by kernel_rfl) (by kernel_rfl) (by kernel_rfl) (fun _ _ _ h => h) (by rfl) rfl rfl (fun _ h => h.1 _ (.tail _ (.tail _ (.tail _ (.tail _ (.tail _ (.tail _ (.head _)))))))) hH39 ?_
  simp only [Act.put, List.setIfInBounds_toArray, List.set_cons_zero, List.set_cons_succ]
  refine step1 25 (by kernel_rfl) rfl (fun K hK => ?_)
  rw [if_pos (by rfl)]
  go_simp
  refine Calls.mono (Mul_f (a) (0) ha (by decide) _) ?_
  rintro e w40 ⟨rfl, hg40⟩
  dsimp only
  refine hK.out _ _ (keepE hH39 hg40) (fun hH40 => ?_)
  clear hK K
  clear hH39
  clear hg40
  refine takeV 27 (.bool false) rfl (by kernel_rfl) (by kernel_rfl) (by kernel_rfl) (fun _ _ _ h => h) (by rfl) (fun w _ => exec_neq_same rfl (fmul (a) (0)) (0) rfl rfl (fmul_lt _ _) (by decide) (by unfold fmul; rw [Nat.mul_zero]; rfl) w) hH40 ?_
  simp only [Act.put, List.setIfInBounds_toArray, List.set_cons_zero, List.set_cons_succ]
  refine takeV 28 (.bool false) rfl (by kernel_rfl) (by kernel_rfl) (by kernel_rfl) (fun _ _ _ h => h) (by rfl) (fun w _ => rfl) hH40 ?_
  simp only [Act.put, List.setIfInBounds_toArray, List.set_cons_zero, List.set_cons_succ]
  refine wpAnyH_done (by kernel_rfl) ?_ _
  refine NoPanic.normal ?_
  obtain ⟨hE41, hW41⟩ := hH40
  repeat ((fail_if_success (with_reducible show Code.wp _ (Code.region _ _ _) _ _ _)); go_step)
  apply wp_region_lit
  refine wpList_load32 rfl _ rfl _ rfl (a) (hE41 _ (.tail _ (.tail _ (.tail _ (.tail _ (.tail _ (.tail _ (.tail _ (.head _))))))))) ?_
  simp only [Act.put, List.setIfInBounds_toArray, List.set_cons_zero, List.set_cons_succ]
  refine wpList_load32 rfl _ rfl _ rfl (c) (hE41 _ (.tail _ (.tail _ (.tail _ (.tail _ (.tail _ (.tail _ (.tail _ (.tail _ (.tail _ (.head _))))))))))) ?_
  simp only [Act.put, List.setIfInBounds_toArray, List.set_cons_zero, List.set_cons_succ]
  go_wp2_with fail
  refine Calls.mono (Mul_f (a) (c) ha hc _) ?_
  rintro e w42 ⟨rfl, hg42⟩
  dsimp only
  go_step
  have hE42 := hE41.grown hg42
  have hW42 := grown_trans hW41 hg42
  clear hE41 hW41 hg42
  go_wp2_with (with_reducible show wpList _ _ _ ({ dst := _, op := Op.store 22 _ _, type := _, pos := _, after := _, guard := _ } :: _) _ _; refine Shut.out ?_)
  show wpList _ _ _ _ _ _
  refine wpList_store_new (fmul (a) (c)) (by simp) rfl rfl rfl rfl (fun w43 hg43 hr43 _ => ?_)
  simp only [Act.put]
  have hE43 := (hE42.grown hg43).cons hr43
  have hW43 := grown_trans hW42 hg43
  clear hE42 hW42 hg43 hr43
  apply wpList_nil
  repeat ((fail_if_success (with_reducible show Code.wp _ (Code.region _ _ _) _ _ _)); go_step)
  refine wp_region_noPanic ?_
  refine wp_region_held_drew (S := fun w' => Holds [(w42.heap.size, fmul (a) (c)), (w32.heap.size, fmul (b) (c)), (w30.heap.size, fmul (a) (b)), (w13.heap.size, fadd (b) (c)), (w11.heap.size, fadd (a) (b)), (w6.heap.size, fmul (2) (3)), (w2.heap.size, 1), (w0.heap.size, 0), (w.heap.size, a), (w.heap.size + 1, b), (w.heap.size + 1 + 1, c)] w' ∧ Grown w w') (by kernel_rfl) ⟨hE43, hW43⟩ (fun hH44 => ?_)
  clear hE43 hW43
  refine take32 0 (a) (w.heap.size) rfl (by kernel_rfl) (by kernel_rfl) (by kernel_rfl) (fun _ _ _ h => h) (by rfl) rfl rfl (fun _ h => h.1 _ (.tail _ (.tail _ (.tail _ (.tail _ (.tail _ (.tail _ (.tail _ (.tail _ (.head _)))))))))) hH44 ?_
  simp only [Act.put, List.setIfInBounds_toArray, List.set_cons_zero, List.set_cons_succ]
  refine take32 1 (fadd (b) (c)) (w13.heap.size) rfl (by kernel_rfl) (by kernel_rfl) (by kernel_rfl) (fun _ _ _ h => h) (by rfl) rfl rfl (fun _ h => h.1 _ (.tail _ (.tail _ (.tail _ (.head _))))) hH44 ?_
  simp only [Act.put, List.setIfInBounds_toArray, List.set_cons_zero, List.set_cons_succ]
  refine take32 3 (fmul (a) (b)) (w30.heap.size) rfl (by kernel_rfl) (by kernel_rfl) (by kernel_rfl) (fun _ _ _ h => h) (by rfl) rfl rfl (fun _ h => h.1 _ (.tail _ (.tail _ (.head _)))) hH44 ?_
  simp only [Act.put, List.setIfInBounds_toArray, List.set_cons_zero, List.set_cons_succ]
  refine take32 4 (fmul (a) (c)) (w42.heap.size) rfl (by kernel_rfl) (by kernel_rfl) (by kernel_rfl) (fun _ _ _ h => h) (by rfl) rfl rfl (fun _ h => h.1 _ (.head _)) hH44 ?_
  simp only [Act.put, List.setIfInBounds_toArray, List.set_cons_zero, List.set_cons_succ]
  refine step1 2 (by kernel_rfl) rfl (fun K hK => ?_)
  rw [if_pos (by rfl)]
  go_simp
  refine Calls.mono (Mul_f (a) (fadd (b) (c)) ha (fadd_lt _ _) _) ?_
  rintro e w45 ⟨rfl, hg45⟩
  dsimp only
  refine hK.out _ _ (keepE hH44 hg45) (fun hH45 => ?_)
  clear hK K
  clear hH44
  clear hg45
  refine step1 5 (by kernel_rfl) rfl (fun K hK => ?_)
  rw [if_pos (by rfl)]
  go_simp
  refine Calls.mono (Add_f (fmul (a) (b)) (fmul (a) (c)) (fmul_lt _ _) (fmul_lt _ _) _) ?_
  rintro e w46 ⟨rfl, hg46⟩
  dsimp only
  refine hK.out _ _ (keepE hH45 hg46) (fun hH46 => ?_)
  clear hK K
  clear hH45
  clear hg46
  refine takeV 6 (.bool false) rfl (by kernel_rfl) (by kernel_rfl) (by kernel_rfl) (fun _ _ _ h => h) (by rfl) (fun w _ => exec_neq_same rfl (fmul (a) (fadd (b) (c))) (fadd (fmul (a) (b)) (fmul (a) (c))) rfl rfl (fmul_lt _ _) (fadd_lt _ _) (ring_dist a b c) w) hH46 ?_
  simp only [Act.put, List.setIfInBounds_toArray, List.set_cons_zero, List.set_cons_succ]
  refine takeV 7 (.bool false) rfl (by kernel_rfl) (by kernel_rfl) (by kernel_rfl) (fun _ _ _ h => h) (by rfl) (fun w _ => rfl) hH46 ?_
  simp only [Act.put, List.setIfInBounds_toArray, List.set_cons_zero, List.set_cons_succ]
  refine take32 8 (a) (w.heap.size) rfl (by kernel_rfl) (by kernel_rfl) (by kernel_rfl) (fun _ _ _ h => h) (by rfl) rfl rfl (fun _ h => h.1 _ (.tail _ (.tail _ (.tail _ (.tail _ (.tail _ (.tail _ (.tail _ (.tail _ (.head _)))))))))) hH46 ?_
  simp only [Act.put, List.setIfInBounds_toArray, List.set_cons_zero, List.set_cons_succ]
  refine take32 10 (b) (w.heap.size + 1) rfl (by kernel_rfl) (by kernel_rfl) (by kernel_rfl) (fun _ _ _ h => h) (by rfl) rfl rfl (fun _ h => h.1 _ (.tail _ (.tail _ (.tail _ (.tail _ (.tail _ (.tail _ (.tail _ (.tail _ (.tail _ (.head _))))))))))) hH46 ?_
  simp only [Act.put, List.setIfInBounds_toArray, List.set_cons_zero, List.set_cons_succ]
  refine take32 12 (fmul (a) (b)) (w30.heap.size) rfl (by kernel_rfl) (by kernel_rfl) (by kernel_rfl) (fun _ _ _ h => h) (by rfl) rfl rfl (fun _ h => h.1 _ (.tail _ (.tail _ (.head _)))) hH46 ?_
  simp only [Act.put, List.setIfInBounds_toArray, List.set_cons_zero, List.set_cons_succ]
  refine step1 9 (by kernel_rfl) rfl (fun K hK => ?_)
  rw [if_pos (by rfl)]
  go_simp
  refine Calls.mono (Neg_any (a) ha _) ?_
  rintro e w47 ⟨rfl, hg47⟩
  dsimp only
  refine hK.out _ _ (keepE hH46 hg47) (fun hH47 => ?_)
  clear hK K
  clear hH46
  clear hg47
  refine step1 11 (by kernel_rfl) rfl (fun K hK => ?_)
  rw [if_pos (by rfl)]
  go_simp
  refine Calls.mono (Mul_f (ng (a)) (b) (fng_lt _) hb _) ?_
  rintro e w48 ⟨rfl, hg48⟩
  dsimp only
  refine hK.out _ _ (keepE hH47 hg48) (fun hH48 => ?_)
  clear hK K
  clear hH47
  clear hg48
  refine step1 13 (by kernel_rfl) rfl (fun K hK => ?_)
  rw [if_pos (by rfl)]
  go_simp
  refine Calls.mono (Neg_any (fmul (a) (b)) (fmul_lt _ _) _) ?_
  rintro e w49 ⟨rfl, hg49⟩
  dsimp only
  refine hK.out _ _ (keepE hH48 hg49) (fun hH49 => ?_)
  clear hK K
  clear hH48
  clear hg49
  refine takeV 14 (.bool false) rfl (by kernel_rfl) (by kernel_rfl) (by kernel_rfl) (fun _ _ _ h => h) (by rfl) (fun w _ => exec_neq_same rfl (fmul (ng (a)) (b)) (ng (fmul (a) (b))) rfl rfl (fmul_lt _ _) (fng_lt _) (ng_mul a b) w) hH49 ?_
  simp only [Act.put, List.setIfInBounds_toArray, List.set_cons_zero, List.set_cons_succ]
  refine takeV 15 (.bool false) rfl (by kernel_rfl) (by kernel_rfl) (by kernel_rfl) (fun _ _ _ h => h) (by rfl) (fun w _ => rfl) hH49 ?_
  simp only [Act.put, List.setIfInBounds_toArray, List.set_cons_zero, List.set_cons_succ]
  refine wpAnyH_done (by kernel_rfl) ?_ _
  refine NoPanic.normal ?_
  obtain ⟨hE50, hW50⟩ := hH49
  repeat ((fail_if_success (with_reducible show Code.wp _ (Code.region _ _ _) _ _ _)); go_step)
  apply wp_region_lit
  refine wpList_load32 rfl _ rfl _ rfl (fadd (a) (b)) (hE50 _ (.tail _ (.tail _ (.tail _ (.tail _ (.head _)))))) ?_
  simp only [Act.put, List.setIfInBounds_toArray, List.set_cons_zero, List.set_cons_succ]
  go_wp2_with fail
  refine Calls.mono (Square_f (fadd (a) (b)) (fadd_lt _ _) _) ?_
  rintro e w51 ⟨rfl, hg51⟩
  dsimp only
  go_step
  have hE51 := hE50.grown hg51
  have hW51 := grown_trans hW50 hg51
  clear hE50 hW50 hg51
  go_wp2_with (with_reducible show wpList _ _ _ ({ dst := _, op := Op.store 22 _ _, type := _, pos := _, after := _, guard := _ } :: _) _ _; refine Shut.out ?_)
  show wpList _ _ _ _ _ _
  refine wpList_store_new (fmul (fadd (a) (b)) (fadd (a) (b))) (by simp) rfl rfl rfl rfl (fun w52 hg52 hr52 _ => ?_)
  simp only [Act.put]
  have hE52 := (hE51.grown hg52).cons hr52
  have hW52 := grown_trans hW51 hg52
  clear hE51 hW51 hg52 hr52
  apply wpList_nil
  repeat ((fail_if_success (with_reducible show Code.wp _ (Code.region _ _ _) _ _ _)); go_step)
  refine wp_region_noPanic ?_
  refine wp_region_held_drew (S := fun w' => Holds [(w51.heap.size, fmul (fadd (a) (b)) (fadd (a) (b))), (w42.heap.size, fmul (a) (c)), (w32.heap.size, fmul (b) (c)), (w30.heap.size, fmul (a) (b)), (w13.heap.size, fadd (b) (c)), (w11.heap.size, fadd (a) (b)), (w6.heap.size, fmul (2) (3)), (w2.heap.size, 1), (w0.heap.size, 0), (w.heap.size, a), (w.heap.size + 1, b), (w.heap.size + 1 + 1, c)] w' ∧ Grown w w') (by kernel_rfl) ⟨hE52, hW52⟩ (fun hH53 => ?_)
  clear hE52 hW52
  refine take32 0 (a) (w.heap.size) rfl (by kernel_rfl) (by kernel_rfl) (by kernel_rfl) (fun _ _ _ h => h) (by rfl) rfl rfl (fun _ h => h.1 _ (.tail _ (.tail _ (.tail _ (.tail _ (.tail _ (.tail _ (.tail _ (.tail _ (.tail _ (.head _))))))))))) hH53 ?_
  simp only [Act.put, List.setIfInBounds_toArray, List.set_cons_zero, List.set_cons_succ]
  refine take32 2 (b) (w.heap.size + 1) rfl (by kernel_rfl) (by kernel_rfl) (by kernel_rfl) (fun _ _ _ h => h) (by rfl) rfl rfl (fun _ h => h.1 _ (.tail _ (.tail _ (.tail _ (.tail _ (.tail _ (.tail _ (.tail _ (.tail _ (.tail _ (.tail _ (.head _)))))))))))) hH53 ?_
  simp only [Act.put, List.setIfInBounds_toArray, List.set_cons_zero, List.set_cons_succ]
  refine step2 1 5 (by kernel_rfl) rfl rfl (fun K hK => ?_) (fun K hK => ?_)
  · -- operation 1 first
    rw [if_pos (by rfl)]
    go_simp
    refine Calls.mono (Square_f (a) ha _) ?_
    rintro e w54 ⟨rfl, hg54⟩
    dsimp only
    refine hK.out _ _ (keepE hH53 hg54) (fun hH54 => ?_)
    clear hK K
    clear hH53
    clear hg54
    refine step2 3 5 (by kernel_rfl) rfl rfl (fun K hK => ?_) (fun K hK => ?_)
    · -- operation 3 first
      rw [if_pos (by rfl)]
      go_simp
      refine Calls.mono (Square_f (b) hb _) ?_
      rintro e w55 ⟨rfl, hg55⟩
      dsimp only
      refine hK.out _ _ (keepE hH54 hg55) (fun hH55 => ?_)
      clear hK K
      clear hH54
      clear hg55
      refine step2 4 5 (by kernel_rfl) rfl rfl (fun K hK => ?_) (fun K hK => ?_)
      · -- operation 4 first
        rw [if_pos (by rfl)]
        go_simp
        refine Calls.mono (Add_f (fmul (a) (a)) (fmul (b) (b)) (fmul_lt _ _) (fmul_lt _ _) _) ?_
        rintro e w56 ⟨rfl, hg56⟩
        dsimp only
        refine hK.out _ _ (keepE hH55 hg56) (fun hH56 => ?_)
        clear hK K
        clear hH55
        clear hg56
        refine step1 5 (by kernel_rfl) rfl (fun K hK => ?_)
        refine alloc_op rfl (by rfl) (fun w57 hA57 ht57 => ?_)
        simp only [Act.put, List.setIfInBounds_toArray, List.set_cons_zero, List.set_cons_succ]
        refine hK.out _ _ (keepE hH56 hA57) (fun hH57 => ?_)
        clear hK K
        refine step1 6 (by kernel_rfl) rfl (fun K hK => ?_)
        refine store_op (fadd (fmul (a) (a)) (fmul (b) (b))) rfl (by rfl) rfl rfl ht57 hA57 (fun w58 hG58 hr58 => ?_)
        simp only [Act.put]
        refine hK.out _ _ (keepE hH56 hG58) (fun hH58 => ?_)
        clear hK K
        clear hH56 hH57 hG58 hA57 ht57
        refine wpAnyH_done (by kernel_rfl) ?_ _
        refine NoPanic.normal ?_
        obtain ⟨hE59, hW59⟩ := hH58
        have hE60 := hE59.cons hr58
        repeat ((fail_if_success (with_reducible show Code.wp _ (Code.region _ _ _) _ _ _)); go_step)
        refine wp_region_noPanic ?_
        refine wp_region_held_drew (S := fun w' => Holds [(w56.heap.size, fadd (fmul (a) (a)) (fmul (b) (b))), (w51.heap.size, fmul (fadd (a) (b)) (fadd (a) (b))), (w42.heap.size, fmul (a) (c)), (w32.heap.size, fmul (b) (c)), (w30.heap.size, fmul (a) (b)), (w13.heap.size, fadd (b) (c)), (w11.heap.size, fadd (a) (b)), (w6.heap.size, fmul (2) (3)), (w2.heap.size, 1), (w0.heap.size, 0), (w.heap.size, a), (w.heap.size + 1, b), (w.heap.size + 1 + 1, c)] w' ∧ Grown w w') (by kernel_rfl) ⟨hE60, hW59⟩ (fun hH61 => ?_)
        clear hE60 hW59
        refine take32 0 (fmul (fadd (a) (b)) (fadd (a) (b))) (w51.heap.size) rfl (by kernel_rfl) (by kernel_rfl) (by kernel_rfl) (fun _ _ _ h => h) (by rfl) rfl rfl (fun _ h => h.1 _ (.tail _ (.head _))) hH61 ?_
        simp only [Act.put, List.setIfInBounds_toArray, List.set_cons_zero, List.set_cons_succ]
        refine take32 1 (fadd (a) (b)) (w11.heap.size) rfl (by kernel_rfl) (by kernel_rfl) (by kernel_rfl) (fun _ _ _ h => h) (by rfl) rfl rfl (fun _ h => h.1 _ (.tail _ (.tail _ (.tail _ (.tail _ (.tail _ (.tail _ (.head _)))))))) hH61 ?_
        simp only [Act.put, List.setIfInBounds_toArray, List.set_cons_zero, List.set_cons_succ]
        refine take32 2 (fadd (a) (b)) (w11.heap.size) rfl (by kernel_rfl) (by kernel_rfl) (by kernel_rfl) (fun _ _ _ h => h) (by rfl) rfl rfl (fun _ h => h.1 _ (.tail _ (.tail _ (.tail _ (.tail _ (.tail _ (.tail _ (.head _)))))))) hH61 ?_
        simp only [Act.put, List.setIfInBounds_toArray, List.set_cons_zero, List.set_cons_succ]
        refine step1 3 (by kernel_rfl) rfl (fun K hK => ?_)
        rw [if_pos (by rfl)]
        go_simp
        refine Calls.mono (Mul_f (fadd (a) (b)) (fadd (a) (b)) (fadd_lt _ _) (fadd_lt _ _) _) ?_
        rintro e w62 ⟨rfl, hg62⟩
        dsimp only
        refine hK.out _ _ (keepE hH61 hg62) (fun hH62 => ?_)
        clear hK K
        clear hH61
        clear hg62
        refine takeV 4 (.bool true) rfl (by kernel_rfl) (by kernel_rfl) (by kernel_rfl) (fun _ _ _ h => h) (by rfl) (fun w _ => exec_eql_same rfl (fmul (fadd (a) (b)) (fadd (a) (b))) (fmul (fadd (a) (b)) (fadd (a) (b))) rfl rfl (fmul_lt _ _) (fmul_lt _ _) (rfl) w) hH62 ?_
        simp only [Act.put, List.setIfInBounds_toArray, List.set_cons_zero, List.set_cons_succ]
        refine takeV 5 (.bool true) rfl (by kernel_rfl) (by kernel_rfl) (by kernel_rfl) (fun _ _ _ h => h) (by rfl) (fun w _ => rfl) hH62 ?_
        simp only [Act.put, List.setIfInBounds_toArray, List.set_cons_zero, List.set_cons_succ]
        refine take32 6 (fmul (fadd (a) (b)) (fadd (a) (b))) (w51.heap.size) rfl (by kernel_rfl) (by kernel_rfl) (by kernel_rfl) (fun _ _ _ h => h) (by rfl) rfl rfl (fun _ h => h.1 _ (.tail _ (.head _))) hH62 ?_
        simp only [Act.put, List.setIfInBounds_toArray, List.set_cons_zero, List.set_cons_succ]
        refine take32 7 (fadd (fmul (a) (a)) (fmul (b) (b))) (w56.heap.size) rfl (by kernel_rfl) (by kernel_rfl) (by kernel_rfl) (fun _ _ _ h => h) (by rfl) rfl rfl (fun _ h => h.1 _ (.head _)) hH62 ?_
        simp only [Act.put, List.setIfInBounds_toArray, List.set_cons_zero, List.set_cons_succ]
        refine take32 8 (fmul (a) (b)) (w30.heap.size) rfl (by kernel_rfl) (by kernel_rfl) (by kernel_rfl) (fun _ _ _ h => h) (by rfl) rfl rfl (fun _ h => h.1 _ (.tail _ (.tail _ (.tail _ (.tail _ (.head _)))))) hH62 ?_
        simp only [Act.put, List.setIfInBounds_toArray, List.set_cons_zero, List.set_cons_succ]
        refine take32 9 (fmul (a) (b)) (w30.heap.size) rfl (by kernel_rfl) (by kernel_rfl) (by kernel_rfl) (fun _ _ _ h => h) (by rfl) rfl rfl (fun _ h => h.1 _ (.tail _ (.tail _ (.tail _ (.tail _ (.head _)))))) hH62 ?_
        simp only [Act.put, List.setIfInBounds_toArray, List.set_cons_zero, List.set_cons_succ]
        refine step1 10 (by kernel_rfl) rfl (fun K hK => ?_)
        rw [if_pos (by rfl)]
        go_simp
        refine Calls.mono (Add_f (fmul (a) (b)) (fmul (a) (b)) (fmul_lt _ _) (fmul_lt _ _) _) ?_
        rintro e w63 ⟨rfl, hg63⟩
        dsimp only
        refine hK.out _ _ (keepE hH62 hg63) (fun hH63 => ?_)
        clear hK K
        clear hH62
        clear hg63
        refine step1 11 (by kernel_rfl) rfl (fun K hK => ?_)
        rw [if_pos (by rfl)]
        go_simp
        refine Calls.mono (Add_f (fadd (fmul (a) (a)) (fmul (b) (b))) (fadd (fmul (a) (b)) (fmul (a) (b))) (fadd_lt _ _) (fadd_lt _ _) _) ?_
        rintro e w64 ⟨rfl, hg64⟩
        dsimp only
        refine hK.out _ _ (keepE hH63 hg64) (fun hH64 => ?_)
        clear hK K
        clear hH63
        clear hg64
        refine takeV 12 (.bool true) rfl (by kernel_rfl) (by kernel_rfl) (by kernel_rfl) (fun _ _ _ h => h) (by rfl) (fun w _ => exec_eql_same rfl (fmul (fadd (a) (b)) (fadd (a) (b))) (fadd (fadd (fmul (a) (a)) (fmul (b) (b))) (fadd (fmul (a) (b)) (fmul (a) (b)))) rfl rfl (fmul_lt _ _) (fadd_lt _ _) (ring_sq a b) w) hH64 ?_
        simp only [Act.put, List.setIfInBounds_toArray, List.set_cons_zero, List.set_cons_succ]
        refine takeV 13 (.bool true) rfl (by kernel_rfl) (by kernel_rfl) (by kernel_rfl) (fun _ _ _ h => h) (by rfl) (fun w _ => rfl) hH64 ?_
        simp only [Act.put, List.setIfInBounds_toArray, List.set_cons_zero, List.set_cons_succ]
        refine takeV 14 (.bool true) rfl (by kernel_rfl) (by kernel_rfl) (by kernel_rfl) (fun _ _ _ h => h) (by rfl) (fun w _ => rfl) hH64 ?_
        simp only [Act.put, List.setIfInBounds_toArray, List.set_cons_zero, List.set_cons_succ]
        refine wpAnyH_done (by kernel_rfl) ?_ _
        refine NoPanic.normal ?_
        obtain ⟨hE65, hW65⟩ := hH64
        repeat go_step
        go_ret
        exact ⟨rfl, by first | assumption | exact hW65⟩
      · -- operation 5 first
        refine alloc_op rfl (by rfl) (fun w66 hA66 ht66 => ?_)
        simp only [Act.put, List.setIfInBounds_toArray, List.set_cons_zero, List.set_cons_succ]
        refine hK.out _ _ (keepE hH55 hA66) (fun hH66 => ?_)
        clear hK K
        refine step1 4 (by kernel_rfl) rfl (fun K hK => ?_)
        rw [if_pos (by rfl)]
        go_simp
        refine Calls.mono (Add_f (fmul (a) (a)) (fmul (b) (b)) (fmul_lt _ _) (fmul_lt _ _) _) ?_
        rintro e w67 ⟨rfl, hg67⟩
        dsimp only
        refine hK.out _ _ (keepE hH66 hg67) (fun hH67 => ?_)
        clear hK K
        have hA67 := grown_trans hA66 hg67
        have ht67 := there_grown ht66 hg67
        clear hA66 ht66
        clear hH66
        clear hg67
        refine step1 6 (by kernel_rfl) rfl (fun K hK => ?_)
        refine store_op (fadd (fmul (a) (a)) (fmul (b) (b))) rfl (by rfl) rfl rfl ht67 hA67 (fun w68 hG68 hr68 => ?_)
        simp only [Act.put]
        refine hK.out _ _ (keepE hH55 hG68) (fun hH68 => ?_)
        clear hK K
        clear hH55 hH67 hG68 hA67 ht67
        refine wpAnyH_done (by kernel_rfl) ?_ _
        refine NoPanic.normal ?_
        obtain ⟨hE69, hW69⟩ := hH68
        have hE70 := hE69.cons hr68
        repeat ((fail_if_success (with_reducible show Code.wp _ (Code.region _ _ _) _ _ _)); go_step)
        refine wp_region_noPanic ?_
        refine wp_region_held_drew (S := fun w' => Holds [(w55.heap.size, fadd (fmul (a) (a)) (fmul (b) (b))), (w51.heap.size, fmul (fadd (a) (b)) (fadd (a) (b))), (w42.heap.size, fmul (a) (c)), (w32.heap.size, fmul (b) (c)), (w30.heap.size, fmul (a) (b)), (w13.heap.size, fadd (b) (c)), (w11.heap.size, fadd (a) (b)), (w6.heap.size, fmul (2) (3)), (w2.heap.size, 1), (w0.heap.size, 0), (w.heap.size, a), (w.heap.size + 1, b), (w.heap.size + 1 + 1, c)] w' ∧ Grown w w') (by kernel_rfl) ⟨hE70, hW69⟩ (fun hH71 => ?_)
        clear hE70 hW69
        refine take32 0 (fmul (fadd (a) (b)) (fadd (a) (b))) (w51.heap.size) rfl (by kernel_rfl) (by kernel_rfl) (by kernel_rfl) (fun _ _ _ h => h) (by rfl) rfl rfl (fun _ h => h.1 _ (.tail _ (.head _))) hH71 ?_
        simp only [Act.put, List.setIfInBounds_toArray, List.set_cons_zero, List.set_cons_succ]
        refine take32 1 (fadd (a) (b)) (w11.heap.size) rfl (by kernel_rfl) (by kernel_rfl) (by kernel_rfl) (fun _ _ _ h => h) (by rfl) rfl rfl (fun _ h => h.1 _ (.tail _ (.tail _ (.tail _ (.tail _ (.tail _ (.tail _ (.head _)))))))) hH71 ?_
        simp only [Act.put, List.setIfInBounds_toArray, List.set_cons_zero, List.set_cons_succ]
        refine take32 2 (fadd (a) (b)) (w11.heap.size) rfl (by kernel_rfl) (by kernel_rfl) (by kernel_rfl) (fun _ _ _ h => h) (by rfl) rfl rfl (fun _ h => h.1 _ (.tail _ (.tail _ (.tail _ (.tail _ (.tail _ (.tail _ (.head _)))))))) hH71 ?_
        simp only [Act.put, List.setIfInBounds_toArray, List.set_cons_zero, List.set_cons_succ]
        refine step1 3 (by kernel_rfl) rfl (fun K hK => ?_)
        rw [if_pos (by rfl)]
        go_simp
        refine Calls.mono (Mul_f (fadd (a) (b)) (fadd (a) (b)) (fadd_lt _ _) (fadd_lt _ _) _) ?_
        rintro e w72 ⟨rfl, hg72⟩
        dsimp only
        refine hK.out _ _ (keepE hH71 hg72) (fun hH72 => ?_)
        clear hK K
        clear hH71
        clear hg72
        refine takeV 4 (.bool true) rfl (by kernel_rfl) (by kernel_rfl) (by kernel_rfl) (fun _ _ _ h => h) (by rfl) (fun w _ => exec_eql_same rfl (fmul (fadd (a) (b)) (fadd (a) (b))) (fmul (fadd (a) (b)) (fadd (a) (b))) rfl rfl (fmul_lt _ _) (fmul_lt _ _) (rfl) w) hH72 ?_
        simp only [Act.put, List.setIfInBounds_toArray, List.set_cons_zero, List.set_cons_succ]
        refine takeV 5 (.bool true) rfl (by kernel_rfl) (by kernel_rfl) (by kernel_rfl) (fun _ _ _ h => h) (by rfl) (fun w _ => rfl) hH72 ?_
        simp only [Act.put, List.setIfInBounds_toArray, List.set_cons_zero, List.set_cons_succ]
        refine take32 6 (fmul (fadd (a) (b)) (fadd (a) (b))) (w51.heap.size) rfl (by kernel_rfl) (by kernel_rfl) (by kernel_rfl) (fun _ _ _ h => h) (by rfl) rfl rfl (fun _ h => h.1 _ (.tail _ (.head _))) hH72 ?_
        simp only [Act.put, List.setIfInBounds_toArray, List.set_cons_zero, List.set_cons_succ]
        refine take32 7 (fadd (fmul (a) (a)) (fmul (b) (b))) (w55.heap.size) rfl (by kernel_rfl) (by kernel_rfl) (by kernel_rfl) (fun _ _ _ h => h) (by rfl) rfl rfl (fun _ h => h.1 _ (.head _)) hH72 ?_
        simp only [Act.put, List.setIfInBounds_toArray, List.set_cons_zero, List.set_cons_succ]
        refine take32 8 (fmul (a) (b)) (w30.heap.size) rfl (by kernel_rfl) (by kernel_rfl) (by kernel_rfl) (fun _ _ _ h => h) (by rfl) rfl rfl (fun _ h => h.1 _ (.tail _ (.tail _ (.tail _ (.tail _ (.head _)))))) hH72 ?_
        simp only [Act.put, List.setIfInBounds_toArray, List.set_cons_zero, List.set_cons_succ]
        refine take32 9 (fmul (a) (b)) (w30.heap.size) rfl (by kernel_rfl) (by kernel_rfl) (by kernel_rfl) (fun _ _ _ h => h) (by rfl) rfl rfl (fun _ h => h.1 _ (.tail _ (.tail _ (.tail _ (.tail _ (.head _)))))) hH72 ?_
        simp only [Act.put, List.setIfInBounds_toArray, List.set_cons_zero, List.set_cons_succ]
        refine step1 10 (by kernel_rfl) rfl (fun K hK => ?_)
        rw [if_pos (by rfl)]
        go_simp
        refine Calls.mono (Add_f (fmul (a) (b)) (fmul (a) (b)) (fmul_lt _ _) (fmul_lt _ _) _) ?_
        rintro e w73 ⟨rfl, hg73⟩
        dsimp only
        refine hK.out _ _ (keepE hH72 hg73) (fun hH73 => ?_)
        clear hK K
        clear hH72
        clear hg73
        refine step1 11 (by kernel_rfl) rfl (fun K hK => ?_)
        rw [if_pos (by rfl)]
        go_simp
        refine Calls.mono (Add_f (fadd (fmul (a) (a)) (fmul (b) (b))) (fadd (fmul (a) (b)) (fmul (a) (b))) (fadd_lt _ _) (fadd_lt _ _) _) ?_
        rintro e w74 ⟨rfl, hg74⟩
        dsimp only
        refine hK.out _ _ (keepE hH73 hg74) (fun hH74 => ?_)
        clear hK K
        clear hH73
        clear hg74
        refine takeV 12 (.bool true) rfl (by kernel_rfl) (by kernel_rfl) (by kernel_rfl) (fun _ _ _ h => h) (by rfl) (fun w _ => exec_eql_same rfl (fmul (fadd (a) (b)) (fadd (a) (b))) (fadd (fadd (fmul (a) (a)) (fmul (b) (b))) (fadd (fmul (a) (b)) (fmul (a) (b)))) rfl rfl (fmul_lt _ _) (fadd_lt _ _) (ring_sq a b) w) hH74 ?_
        simp only [Act.put, List.setIfInBounds_toArray, List.set_cons_zero, List.set_cons_succ]
        refine takeV 13 (.bool true) rfl (by kernel_rfl) (by kernel_rfl) (by kernel_rfl) (fun _ _ _ h => h) (by rfl) (fun w _ => rfl) hH74 ?_
        simp only [Act.put, List.setIfInBounds_toArray, List.set_cons_zero, List.set_cons_succ]
        refine takeV 14 (.bool true) rfl (by kernel_rfl) (by kernel_rfl) (by kernel_rfl) (fun _ _ _ h => h) (by rfl) (fun w _ => rfl) hH74 ?_
        simp only [Act.put, List.setIfInBounds_toArray, List.set_cons_zero, List.set_cons_succ]
        refine wpAnyH_done (by kernel_rfl) ?_ _
        refine NoPanic.normal ?_
        obtain ⟨hE75, hW75⟩ := hH74
        repeat go_step
        go_ret
        exact ⟨rfl, by first | assumption | exact hW75⟩
    · -- operation 5 first
      refine alloc_op rfl (by rfl) (fun w76 hA76 ht76 => ?_)
      simp only [Act.put, List.setIfInBounds_toArray, List.set_cons_zero, List.set_cons_succ]
      refine hK.out _ _ (keepE hH54 hA76) (fun hH76 => ?_)
      clear hK K
      refine step1 3 (by kernel_rfl) rfl (fun K hK => ?_)
      rw [if_pos (by rfl)]
      go_simp
      refine Calls.mono (Square_f (b) hb _) ?_
      rintro e w77 ⟨rfl, hg77⟩
      dsimp only
      refine hK.out _ _ (keepE hH76 hg77) (fun hH77 => ?_)
      clear hK K
      have hA77 := grown_trans hA76 hg77
      have ht77 := there_grown ht76 hg77
      clear hA76 ht76
      clear hH76
      clear hg77
      refine step1 4 (by kernel_rfl) rfl (fun K hK => ?_)
      rw [if_pos (by rfl)]
      go_simp
      refine Calls.mono (Add_f (fmul (a) (a)) (fmul (b) (b)) (fmul_lt _ _) (fmul_lt _ _) _) ?_
      rintro e w78 ⟨rfl, hg78⟩
      dsimp only
      refine hK.out _ _ (keepE hH77 hg78) (fun hH78 => ?_)
      clear hK K
      have hA78 := grown_trans hA77 hg78
      have ht78 := there_grown ht77 hg78
      clear hA77 ht77
      clear hH77
      clear hg78
      refine step1 6 (by kernel_rfl) rfl (fun K hK => ?_)
      refine store_op (fadd (fmul (a) (a)) (fmul (b) (b))) rfl (by rfl) rfl rfl ht78 hA78 (fun w79 hG79 hr79 => ?_)
      simp only [Act.put]
      refine hK.out _ _ (keepE hH54 hG79) (fun hH79 => ?_)
      clear hK K
      clear hH54 hH78 hG79 hA78 ht78
      refine wpAnyH_done (by kernel_rfl) ?_ _
      refine NoPanic.normal ?_
      obtain ⟨hE80, hW80⟩ := hH79
      have hE81 := hE80.cons hr79
      repeat ((fail_if_success (with_reducible show Code.wp _ (Code.region _ _ _) _ _ _)); go_step)
      refine wp_region_noPanic ?_
      refine wp_region_held_drew (S := fun w' => Holds [(w54.heap.size, fadd (fmul (a) (a)) (fmul (b) (b))), (w51.heap.size, fmul (fadd (a) (b)) (fadd (a) (b))), (w42.heap.size, fmul (a) (c)), (w32.heap.size, fmul (b) (c)), (w30.heap.size, fmul (a) (b)), (w13.heap.size, fadd (b) (c)), (w11.heap.size, fadd (a) (b)), (w6.heap.size, fmul (2) (3)), (w2.heap.size, 1), (w0.heap.size, 0), (w.heap.size, a), (w.heap.size + 1, b), (w.heap.size + 1 + 1, c)] w' ∧ Grown w w') (by kernel_rfl) ⟨hE81, hW80⟩ (fun hH82 => ?_)
      clear hE81 hW80
      refine take32 0 (fmul (fadd (a) (b)) (fadd (a) (b))) (w51.heap.size) rfl (by kernel_rfl) (by kernel_rfl) (by kernel_rfl) (fun _ _ _ h => h) (by rfl) rfl rfl (fun _ h => h.1 _ (.tail _ (.head _))) hH82 ?_
      simp only [Act.put, List.setIfInBounds_toArray, List.set_cons_zero, List.set_cons_succ]
      refine take32 1 (fadd (a) (b)) (w11.heap.size) rfl (by kernel_rfl) (by kernel_rfl) (by kernel_rfl) (fun _ _ _ h => h) (by rfl) rfl rfl (fun _ h => h.1 _ (.tail _ (.tail _ (.tail _ (.tail _ (.tail _ (.tail _ (.head _)))))))) hH82 ?_
      simp only [Act.put, List.setIfInBounds_toArray, List.set_cons_zero, List.set_cons_succ]
      refine take32 2 (fadd (a) (b)) (w11.heap.size) rfl (by kernel_rfl) (by kernel_rfl) (by kernel_rfl) (fun _ _ _ h => h) (by rfl) rfl rfl (fun _ h => h.1 _ (.tail _ (.tail _ (.tail _ (.tail _ (.tail _ (.tail _ (.head _)))))))) hH82 ?_
      simp only [Act.put, List.setIfInBounds_toArray, List.set_cons_zero, List.set_cons_succ]
      refine step1 3 (by kernel_rfl) rfl (fun K hK => ?_)
      rw [if_pos (by rfl)]
      go_simp
      refine Calls.mono (Mul_f (fadd (a) (b)) (fadd (a) (b)) (fadd_lt _ _) (fadd_lt _ _) _) ?_
      rintro e w83 ⟨rfl, hg83⟩
      dsimp only
      refine hK.out _ _ (keepE hH82 hg83) (fun hH83 => ?_)
      clear hK K
      clear hH82
      clear hg83
      refine takeV 4 (.bool true) rfl (by kernel_rfl) (by kernel_rfl) (by kernel_rfl) (fun _ _ _ h => h) (by rfl) (fun w _ => exec_eql_same rfl (fmul (fadd (a) (b)) (fadd (a) (b))) (fmul (fadd (a) (b)) (fadd (a) (b))) rfl rfl (fmul_lt _ _) (fmul_lt _ _) (rfl) w) hH83 ?_
      simp only [Act.put, List.setIfInBounds_toArray, List.set_cons_zero, List.set_cons_succ]
      refine takeV 5 (.bool true) rfl (by kernel_rfl) (by kernel_rfl) (by kernel_rfl) (fun _ _ _ h => h) (by rfl) (fun w _ => rfl) hH83 ?_
      simp only [Act.put, List.setIfInBounds_toArray, List.set_cons_zero, List.set_cons_succ]
      refine take32 6 (fmul (fadd (a) (b)) (fadd (a) (b))) (w51.heap.size) rfl (by kernel_rfl) (by kernel_rfl) (by kernel_rfl) (fun _ _ _ h => h) (by rfl) rfl rfl (fun _ h => h.1 _ (.tail _ (.head _))) hH83 ?_
      simp only [Act.put, List.setIfInBounds_toArray, List.set_cons_zero, List.set_cons_succ]
      refine take32 7 (fadd (fmul (a) (a)) (fmul (b) (b))) (w54.heap.size) rfl (by kernel_rfl) (by kernel_rfl) (by kernel_rfl) (fun _ _ _ h => h) (by rfl) rfl rfl (fun _ h => h.1 _ (.head _)) hH83 ?_
      simp only [Act.put, List.setIfInBounds_toArray, List.set_cons_zero, List.set_cons_succ]
      refine take32 8 (fmul (a) (b)) (w30.heap.size) rfl (by kernel_rfl) (by kernel_rfl) (by kernel_rfl) (fun _ _ _ h => h) (by rfl) rfl rfl (fun _ h => h.1 _ (.tail _ (.tail _ (.tail _ (.tail _ (.head _)))))) hH83 ?_
      simp only [Act.put, List.setIfInBounds_toArray, List.set_cons_zero, List.set_cons_succ]
      refine take32 9 (fmul (a) (b)) (w30.heap.size) rfl (by kernel_rfl) (by kernel_rfl) (by kernel_rfl) (fun _ _ _ h => h) (by rfl) rfl rfl (fun _ h => h.1 _ (.tail _ (.tail _ (.tail _ (.tail _ (.head _)))))) hH83 ?_
      simp only [Act.put, List.setIfInBounds_toArray, List.set_cons_zero, List.set_cons_succ]
      refine step1 10 (by kernel_rfl) rfl (fun K hK => ?_)
      rw [if_pos (by rfl)]
      go_simp
      refine Calls.mono (Add_f (fmul (a) (b)) (fmul (a) (b)) (fmul_lt _ _) (fmul_lt _ _) _) ?_
      rintro e w84 ⟨rfl, hg84⟩
      dsimp only
      refine hK.out _ _ (keepE hH83 hg84) (fun hH84 => ?_)
      clear hK K
      clear hH83
      clear hg84
      refine step1 11 (by kernel_rfl) rfl (fun K hK => ?_)
      rw [if_pos (by rfl)]
      go_simp
      refine Calls.mono (Add_f (fadd (fmul (a) (a)) (fmul (b) (b))) (fadd (fmul (a) (b)) (fmul (a) (b))) (fadd_lt _ _) (fadd_lt _ _) _) ?_
      rintro e w85 ⟨rfl, hg85⟩
      dsimp only
      refine hK.out _ _ (keepE hH84 hg85) (fun hH85 => ?_)
      clear hK K
      clear hH84
      clear hg85
      refine takeV 12 (.bool true) rfl (by kernel_rfl) (by kernel_rfl) (by kernel_rfl) (fun _ _ _ h => h) (by rfl) (fun w _ => exec_eql_same rfl (fmul (fadd (a) (b)) (fadd (a) (b))) (fadd (fadd (fmul (a) (a)) (fmul (b) (b))) (fadd (fmul (a) (b)) (fmul (a) (b)))) rfl rfl (fmul_lt _ _) (fadd_lt _ _) (ring_sq a b) w) hH85 ?_
      simp only [Act.put, List.setIfInBounds_toArray, List.set_cons_zero, List.set_cons_succ]
      refine takeV 13 (.bool true) rfl (by kernel_rfl) (by kernel_rfl) (by kernel_rfl) (fun _ _ _ h => h) (by rfl) (fun w _ => rfl) hH85 ?_
      simp only [Act.put, List.setIfInBounds_toArray, List.set_cons_zero, List.set_cons_succ]
      refine takeV 14 (.bool true) rfl (by kernel_rfl) (by kernel_rfl) (by kernel_rfl) (fun _ _ _ h => h) (by rfl) (fun w _ => rfl) hH85 ?_
      simp only [Act.put, List.setIfInBounds_toArray, List.set_cons_zero, List.set_cons_succ]
      refine wpAnyH_done (by kernel_rfl) ?_ _
      refine NoPanic.normal ?_
      obtain ⟨hE86, hW86⟩ := hH85
      repeat go_step
      go_ret
      exact ⟨rfl, by first | assumption | exact hW86⟩
  · -- operation 5 first
    refine alloc_op rfl (by rfl) (fun w87 hA87 ht87 => ?_)
    simp only [Act.put, List.setIfInBounds_toArray, List.set_cons_zero, List.set_cons_succ]
    refine hK.out _ _ (keepE hH53 hA87) (fun hH87 => ?_)
    clear hK K
    refine step1 1 (by kernel_rfl) rfl (fun K hK => ?_)
    rw [if_pos (by rfl)]
    go_simp
    refine Calls.mono (Square_f (a) ha _) ?_
    rintro e w88 ⟨rfl, hg88⟩
    dsimp only
    refine hK.out _ _ (keepE hH87 hg88) (fun hH88 => ?_)
    clear hK K
    have hA88 := grown_trans hA87 hg88
    have ht88 := there_grown ht87 hg88
    clear hA87 ht87
    clear hH87
    clear hg88
    refine step1 3 (by kernel_rfl) rfl (fun K hK => ?_)
    rw [if_pos (by rfl)]
    go_simp
    refine Calls.mono (Square_f (b) hb _) ?_
    rintro e w89 ⟨rfl, hg89⟩
    dsimp only
    refine hK.out _ _ (keepE hH88 hg89) (fun hH89 => ?_)
    clear hK K
    have hA89 := grown_trans hA88 hg89
    have ht89 := there_grown ht88 hg89
    clear hA88 ht88
    clear hH88
    clear hg89
    refine step1 4 (by kernel_rfl) rfl (fun K hK => ?_)
    rw [if_pos (by rfl)]
    go_simp
    refine Calls.mono (Add_f (fmul (a) (a)) (fmul (b) (b)) (fmul_lt _ _) (fmul_lt _ _) _) ?_
    rintro e w90 ⟨rfl, hg90⟩
    dsimp only
    refine hK.out _ _ (keepE hH89 hg90) (fun hH90 => ?_)
    clear hK K
    have hA90 := grown_trans hA89 hg90
    have ht90 := there_grown ht89 hg90
    clear hA89 ht89
    clear hH89
    clear hg90
    refine step1 6 (by kernel_rfl) rfl (fun K hK => ?_)
    refine store_op (fadd (fmul (a) (a)) (fmul (b) (b))) rfl (by rfl) rfl rfl ht90 hA90 (fun w91 hG91 hr91 => ?_)
    simp only [Act.put]
    refine hK.out _ _ (keepE hH53 hG91) (fun hH91 => ?_)
    clear hK K
    clear hH53 hH90 hG91 hA90 ht90
    refine wpAnyH_done (by kernel_rfl) ?_ _
    refine NoPanic.normal ?_
    obtain ⟨hE92, hW92⟩ := hH91
    have hE93 := hE92.cons hr91
    repeat ((fail_if_success (with_reducible show Code.wp _ (Code.region _ _ _) _ _ _)); go_step)
    refine wp_region_noPanic ?_
    refine wp_region_held_drew (S := fun w' => Holds [(w52.heap.size, fadd (fmul (a) (a)) (fmul (b) (b))), (w51.heap.size, fmul (fadd (a) (b)) (fadd (a) (b))), (w42.heap.size, fmul (a) (c)), (w32.heap.size, fmul (b) (c)), (w30.heap.size, fmul (a) (b)), (w13.heap.size, fadd (b) (c)), (w11.heap.size, fadd (a) (b)), (w6.heap.size, fmul (2) (3)), (w2.heap.size, 1), (w0.heap.size, 0), (w.heap.size, a), (w.heap.size + 1, b), (w.heap.size + 1 + 1, c)] w' ∧ Grown w w') (by kernel_rfl) ⟨hE93, hW92⟩ (fun hH94 => ?_)
    clear hE93 hW92
    refine take32 0 (fmul (fadd (a) (b)) (fadd (a) (b))) (w51.heap.size) rfl (by kernel_rfl) (by kernel_rfl) (by kernel_rfl) (fun _ _ _ h => h) (by rfl) rfl rfl (fun _ h => h.1 _ (.tail _ (.head _))) hH94 ?_
    simp only [Act.put, List.setIfInBounds_toArray, List.set_cons_zero, List.set_cons_succ]
    refine take32 1 (fadd (a) (b)) (w11.heap.size) rfl (by kernel_rfl) (by kernel_rfl) (by kernel_rfl) (fun _ _ _ h => h) (by rfl) rfl rfl (fun _ h => h.1 _ (.tail _ (.tail _ (.tail _ (.tail _ (.tail _ (.tail _ (.head _)))))))) hH94 ?_
    simp only [Act.put, List.setIfInBounds_toArray, List.set_cons_zero, List.set_cons_succ]
    refine take32 2 (fadd (a) (b)) (w11.heap.size) rfl (by kernel_rfl) (by kernel_rfl) (by kernel_rfl) (fun _ _ _ h => h) (by rfl) rfl rfl (fun _ h => h.1 _ (.tail _ (.tail _ (.tail _ (.tail _ (.tail _ (.tail _ (.head _)))))))) hH94 ?_
    simp only [Act.put, List.setIfInBounds_toArray, List.set_cons_zero, List.set_cons_succ]
    refine step1 3 (by kernel_rfl) rfl (fun K hK => ?_)
    rw [if_pos (by rfl)]
    go_simp
    refine Calls.mono (Mul_f (fadd (a) (b)) (fadd (a) (b)) (fadd_lt _ _) (fadd_lt _ _) _) ?_
    rintro e w95 ⟨rfl, hg95⟩
    dsimp only
    refine hK.out _ _ (keepE hH94 hg95) (fun hH95 => ?_)
    clear hK K
    clear hH94
    clear hg95
    refine takeV 4 (.bool true) rfl (by kernel_rfl) (by kernel_rfl) (by kernel_rfl) (fun _ _ _ h => h) (by rfl) (fun w _ => exec_eql_same rfl (fmul (fadd (a) (b)) (fadd (a) (b))) (fmul (fadd (a) (b)) (fadd (a) (b))) rfl rfl (fmul_lt _ _) (fmul_lt _ _) (rfl) w) hH95 ?_
    simp only [Act.put, List.setIfInBounds_toArray, List.set_cons_zero, List.set_cons_succ]
    refine takeV 5 (.bool true) rfl (by kernel_rfl) (by kernel_rfl) (by kernel_rfl) (fun _ _ _ h => h) (by rfl) (fun w _ => rfl) hH95 ?_
    simp only [Act.put, List.setIfInBounds_toArray, List.set_cons_zero, List.set_cons_succ]
    refine take32 6 (fmul (fadd (a) (b)) (fadd (a) (b))) (w51.heap.size) rfl (by kernel_rfl) (by kernel_rfl) (by kernel_rfl) (fun _ _ _ h => h) (by rfl) rfl rfl (fun _ h => h.1 _ (.tail _ (.head _))) hH95 ?_
    simp only [Act.put, List.setIfInBounds_toArray, List.set_cons_zero, List.set_cons_succ]
    refine take32 7 (fadd (fmul (a) (a)) (fmul (b) (b))) (w52.heap.size) rfl (by kernel_rfl) (by kernel_rfl) (by kernel_rfl) (fun _ _ _ h => h) (by rfl) rfl rfl (fun _ h => h.1 _ (.head _)) hH95 ?_
    simp only [Act.put, List.setIfInBounds_toArray, List.set_cons_zero, List.set_cons_succ]
    refine take32 8 (fmul (a) (b)) (w30.heap.size) rfl (by kernel_rfl) (by kernel_rfl) (by kernel_rfl) (fun _ _ _ h => h) (by rfl) rfl rfl (fun _ h => h.1 _ (.tail _ (.tail _ (.tail _ (.tail _ (.head _)))))) hH95 ?_
    simp only [Act.put, List.setIfInBounds_toArray, List.set_cons_zero, List.set_cons_succ]
    refine take32 9 (fmul (a) (b)) (w30.heap.size) rfl (by kernel_rfl) (by kernel_rfl) (by kernel_rfl) (fun _ _ _ h => h) (by rfl) rfl rfl (fun _ h => h.1 _ (.tail _ (.tail _ (.tail _ (.tail _ (.head _)))))) hH95 ?_
    simp only [Act.put, List.setIfInBounds_toArray, List.set_cons_zero, List.set_cons_succ]
    refine step1 10 (by kernel_rfl) rfl (fun K hK => ?_)
    rw [if_pos (by rfl)]
    go_simp
    refine Calls.mono (Add_f (fmul (a) (b)) (fmul (a) (b)) (fmul_lt _ _) (fmul_lt _ _) _) ?_
    rintro e w96 ⟨rfl, hg96⟩
    dsimp only
    refine hK.out _ _ (keepE hH95 hg96) (fun hH96 => ?_)
    clear hK K
    clear hH95
    clear hg96
    refine step1 11 (by kernel_rfl) rfl (fun K hK => ?_)
    rw [if_pos (by rfl)]
    go_simp
    refine Calls.mono (Add_f (fadd (fmul (a) (a)) (fmul (b) (b))) (fadd (fmul (a) (b)) (fmul (a) (b))) (fadd_lt _ _) (fadd_lt _ _) _) ?_
    rintro e w97 ⟨rfl, hg97⟩
    dsimp only
    refine hK.out _ _ (keepE hH96 hg97) (fun hH97 => ?_)
    clear hK K
    clear hH96
    clear hg97
    refine takeV 12 (.bool true) rfl (by kernel_rfl) (by kernel_rfl) (by kernel_rfl) (fun _ _ _ h => h) (by rfl) (fun w _ => exec_eql_same rfl (fmul (fadd (a) (b)) (fadd (a) (b))) (fadd (fadd (fmul (a) (a)) (fmul (b) (b))) (fadd (fmul (a) (b)) (fmul (a) (b)))) rfl rfl (fmul_lt _ _) (fadd_lt _ _) (ring_sq a b) w) hH97 ?_
    simp only [Act.put, List.setIfInBounds_toArray, List.set_cons_zero, List.set_cons_succ]
    refine takeV 13 (.bool true) rfl (by kernel_rfl) (by kernel_rfl) (by kernel_rfl) (fun _ _ _ h => h) (by rfl) (fun w _ => rfl) hH97 ?_
    simp only [Act.put, List.setIfInBounds_toArray, List.set_cons_zero, List.set_cons_succ]
    refine takeV 14 (.bool true) rfl (by kernel_rfl) (by kernel_rfl) (by kernel_rfl) (fun _ _ _ h => h) (by rfl) (fun w _ => rfl) hH97 ?_
    simp only [Act.put, List.setIfInBounds_toArray, List.set_cons_zero, List.set_cons_succ]
    refine wpAnyH_done (by kernel_rfl) ?_ _
    refine NoPanic.normal ?_
    obtain ⟨hE98, hW98⟩ := hH97
    repeat go_step
    go_ret
    exact ⟨rfl, by first | assumption | exact hW98⟩
end Go.Proofs.Ytoonlnncboikfaa
