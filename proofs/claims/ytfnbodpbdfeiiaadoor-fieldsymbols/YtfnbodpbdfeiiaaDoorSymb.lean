import Derived.Test.YtfnbodpbdfeiiaaDoorLeg
import Derived.Test.YtfnbodpbdfeiiaaDoorInts
namespace Go.Proofs.YtfnbodpbdfeiiaaDoor
open Go.RowKit Go.Shelf FieldNum

set_option maxRecDepth 100000 in
set_option maxHeartbeats 4000000 in
theorem symbols_walk0 (a b u t : Nat) (ha : a < M) (hb : b < M) (hu : Hid (u = 1)) (huM : u < M) (ht : Hid (t = 2)) (htM : t < M) (hl1 : Hid (leg (ng u) = 1)) (hl2 : Hid (leg t = -1))
    (hlo : Hid (-1 ≤ leg a)) (hhi : Hid (leg a ≤ 1)) (hm1 : Hid (IntKind.i64.wrap (leg a * leg b) = leg a * leg b)) (hm2 : Hid (IntKind.i64.wrap (leg a * leg a) = leg a * leg a)) (hz : Hid (leg a = 0)) (hf : Hid (fred a = 0))
    (w : World) (hG : w.rangeAt 2 0 PW) (hO : w.rangeAt 0 0 (nl 1)) :
    Calls Tryd.prog 4 #[bv a, bv b] w fun e w' => e = .returned (.bool true) ∧ Grown w w' := by
  rw [bv, bv]
  go_enter Tryd.func4, Tryd.ntmps4
  go_wp2_with (with_reducible show wpList _ _ _ ({ dst := _, op := Op.load 22 _, type := _, pos := _, after := _, guard := _ } :: _) _ _; refine Shut.out ?_)
  show wpList _ _ _ _ _ _
  obtain ⟨hE0, hW0⟩ := params2 w a b
  generalize ((w.alloc (Obj.cells (bl a).toArray 22)).alloc (Obj.cells (bl b).toArray 22)) = W0 at hE0 hW0 ⊢
  refine wpList_load32 rfl _ rfl _ rfl (a) (hE0 _ (.head _)) ?_
  simp only [Act.put, List.setIfInBounds_toArray, List.set_cons_zero, List.set_cons_succ]
  go_wp2_with fail
  refine Calls.mono (Legendre_any (a) ha _ (rangeAt_grown hG hW0) (rangeAt_grown hO hW0)) ?_
  rintro e w1 ⟨rfl, hg1⟩
  dsimp only
  go_step
  have hE1 := hE0.grown hg1
  have hW1 := grown_trans hW0 hg1
  clear hE0 hW0 hg1
  refine wpList_val (.int .i64 (leg (a))) rfl rfl ?_
  simp only [Act.put, List.setIfInBounds_toArray, List.set_cons_zero, List.set_cons_succ]
  apply wpList_nil
  repeat ((fail_if_success (with_reducible show Code.wp _ (Code.region _ _ _) _ _ _)); go_step)
  apply wp_region_lit
  refine wpList_load32 rfl _ rfl _ rfl (b) (hE1 _ (.tail _ (.head _))) ?_
  simp only [Act.put, List.setIfInBounds_toArray, List.set_cons_zero, List.set_cons_succ]
  go_wp2_with fail
  refine Calls.mono (Legendre_any (b) hb _ (rangeAt_grown hG hW1) (rangeAt_grown hO hW1)) ?_
  rintro e w2 ⟨rfl, hg2⟩
  dsimp only
  go_step
  have hE2 := hE1.grown hg2
  have hW2 := grown_trans hW1 hg2
  clear hE1 hW1 hg2
  refine wpList_val (.int .i64 (leg (b))) rfl rfl ?_
  simp only [Act.put, List.setIfInBounds_toArray, List.set_cons_zero, List.set_cons_succ]
  apply wpList_nil
  repeat ((fail_if_success (with_reducible show Code.wp _ (Code.region _ _ _) _ _ _)); go_step)
  apply wp_region_lit
  go_wp2_with fail
  refine Calls.mono (number_nat 0 (by decide) 0 rfl _) ?_
  rintro e w3 ⟨rfl, hg3⟩
  dsimp only
  go_step
  have hE3 := hE2.grown hg3
  have hW3 := grown_trans hW2 hg3
  clear hE2 hW2 hg3
  go_wp2_with (with_reducible show wpList _ _ _ ({ dst := _, op := Op.store 22 _ _, type := _, pos := _, after := _, guard := _ } :: _) _ _; refine Shut.out ?_)
  show wpList _ _ _ _ _ _
  refine wpList_store_new (0) (by simp) rfl rfl rfl rfl (fun w4 hg4 hr4 _ => ?_)
  simp only [Act.put]
  have hE4 := (hE3.grown hg4).cons hr4
  have hW4 := grown_trans hW3 hg4
  clear hE3 hW3 hg4 hr4
  apply wpList_nil
  repeat ((fail_if_success (with_reducible show Code.wp _ (Code.region _ _ _) _ _ _)); go_step)
  apply wp_region_lit
  go_wp2_with fail
  refine Calls.mono (number_nat u (by rw [hu.out]; decide) 1 (by rw [hu.out]; rfl) _) ?_
  rintro e w5 ⟨rfl, hg5⟩
  dsimp only
  go_step
  have hE5 := hE4.grown hg5
  have hW5 := grown_trans hW4 hg5
  clear hE4 hW4 hg5
  go_wp2_with fail
  refine Calls.mono (Neg_any (u) huM _) ?_
  rintro e w6 ⟨rfl, hg6⟩
  dsimp only
  go_step
  have hE6 := hE5.grown hg6
  have hW6 := grown_trans hW5 hg6
  clear hE5 hW5 hg6
  go_wp2_with fail
  refine Calls.mono (Legendre_any (ng (u)) (fng_lt _) _ (rangeAt_grown hG hW6) (rangeAt_grown hO hW6)) ?_
  rintro e w7 ⟨rfl, hg7⟩
  dsimp only
  go_step
  have hE7 := hE6.grown hg7
  have hW7 := grown_trans hW6 hg7
  clear hE6 hW6 hg7
  refine wpList_val (.bool false) rfl (exec_neqI rfl (leg (ng (u))) (1) rfl rfl false (by rw [hl1.out]; rfl)) ?_
  simp only [Act.put, List.setIfInBounds_toArray, List.set_cons_zero, List.set_cons_succ]
  refine wpList_val (.bool false) rfl rfl ?_
  simp only [Act.put, List.setIfInBounds_toArray, List.set_cons_zero, List.set_cons_succ]
  refine wpList_step (fun K hK => ?_)
  rw [if_pos (by rfl)]
  go_simp
  refine Calls.mono (number_nat t (by rw [ht.out]; decide) 2 (by rw [ht.out]; rfl) _) ?_
  rintro e w8 ⟨rfl, hg8⟩
  dsimp only
  refine hK _ _ ?_
  clear hK K
  have hE8 := hE7.grown hg8
  have hW8 := grown_trans hW7 hg8
  clear hE7 hW7 hg8
  refine wpList_step (fun K hK => ?_)
  rw [if_pos (by rfl)]
  go_simp
  refine Calls.mono (Legendre_any (t) htM _ (rangeAt_grown hG hW8) (rangeAt_grown hO hW8)) ?_
  rintro e w9 ⟨rfl, hg9⟩
  dsimp only
  refine hK _ _ ?_
  clear hK K
  have hE9 := hE8.grown hg9
  have hW9 := grown_trans hW8 hg9
  clear hE8 hW8 hg9
  refine wpList_valG (.bool false) (by rfl) (exec_neqI rfl (leg (t)) ((-1)) rfl rfl false (by rw [hl2.out]; rfl)) ?_
  simp only [Act.put, List.setIfInBounds_toArray, List.set_cons_zero, List.set_cons_succ]
  refine wpList_val (.bool false) rfl rfl ?_
  simp only [Act.put, List.setIfInBounds_toArray, List.set_cons_zero, List.set_cons_succ]
  apply wpList_nil
  repeat ((fail_if_success (with_reducible show Code.wp _ (Code.region _ _ _) _ _ _)); go_step)
  refine wp_region_noPanic ?_
  refine wp_region_held_drew (S := fun w' => Holds [(w3.heap.size, 0), (w.heap.size, a), (w.heap.size + 1, b)] w' ∧ Grown w w') (by kernel_rfl) ⟨hE9, hW9⟩ (fun hH10 => ?_)
  clear hE9 hW9
  refine takeV 0 (.int .i64 (leg (a))) rfl (by kernel_rfl) (by kernel_rfl) (by kernel_rfl) (fun _ _ _ h => h) (by rfl) (fun w _ => rfl) hH10 ?_
  simp only [Act.put, List.setIfInBounds_toArray, List.set_cons_zero, List.set_cons_succ]
  refine takeV 1 (.bool true) rfl (by kernel_rfl) (by kernel_rfl) (by kernel_rfl) (fun _ _ _ h => h) (by rfl) (fun w _ => exec_eqlI rfl (leg (a)) (0) rfl rfl true (decide_eq_true hz.out)) hH10 ?_
  simp only [Act.put, List.setIfInBounds_toArray, List.set_cons_zero, List.set_cons_succ]
  refine take32 2 (a) (w.heap.size) rfl (by kernel_rfl) (by kernel_rfl) (by kernel_rfl) (fun _ _ _ h => h) (by rfl) rfl rfl (fun _ h => h.1 _ (.tail _ (.head _))) hH10 ?_
  simp only [Act.put, List.setIfInBounds_toArray, List.set_cons_zero, List.set_cons_succ]
  refine take32 4 (0) (w3.heap.size) rfl (by kernel_rfl) (by kernel_rfl) (by kernel_rfl) (fun _ _ _ h => h) (by rfl) rfl rfl (fun _ h => h.1 _ (.head _)) hH10 ?_
  simp only [Act.put, List.setIfInBounds_toArray, List.set_cons_zero, List.set_cons_succ]
  refine step1 3 (by kernel_rfl) rfl (fun K hK => ?_)
  rw [if_pos (by rfl)]
  go_simp
  refine Calls.mono (Reduce_f (a) ha _) ?_
  rintro e w11 ⟨rfl, hg11⟩
  dsimp only
  refine hK.out _ _ (keepE hH10 hg11) (fun hH11 => ?_)
  clear hK K
  clear hH10
  clear hg11
  refine takeV 5 (.bool true) rfl (by kernel_rfl) (by kernel_rfl) (by kernel_rfl) (fun _ _ _ h => h) (by rfl) (fun w _ => exec_eql_same rfl (fred (a)) (0) rfl rfl (fred_lt _) (by decide) (hf.out) w) hH11 ?_
  simp only [Act.put, List.setIfInBounds_toArray, List.set_cons_zero, List.set_cons_succ]
  refine takeV 6 (.bool false) rfl (by kernel_rfl) (by kernel_rfl) (by kernel_rfl) (fun _ _ _ h => h) (by rfl) (fun w _ => by first | rfl | go_simp) hH11 ?_
  simp only [Act.put, List.setIfInBounds_toArray, List.set_cons_zero, List.set_cons_succ]
  refine takeV 7 (.bool false) rfl (by kernel_rfl) (by kernel_rfl) (by kernel_rfl) (fun _ _ _ h => h) (by rfl) (fun w _ => rfl) hH11 ?_
  simp only [Act.put, List.setIfInBounds_toArray, List.set_cons_zero, List.set_cons_succ]
  refine takeV 8 (.int .i64 (leg (a))) rfl (by kernel_rfl) (by kernel_rfl) (by kernel_rfl) (fun _ _ _ h => h) (by rfl) (fun w _ => rfl) hH11 ?_
  simp only [Act.put, List.setIfInBounds_toArray, List.set_cons_zero, List.set_cons_succ]
  refine takeV 9 (.bool false) rfl (by kernel_rfl) (by kernel_rfl) (by kernel_rfl) (fun _ _ _ h => h) (by rfl) (fun w _ => exec_lssI rfl (leg (a)) ((-1)) rfl rfl false (decide_eq_false (Int.not_lt.2 hlo.out))) hH11 ?_
  simp only [Act.put, List.setIfInBounds_toArray, List.set_cons_zero, List.set_cons_succ]
  refine takeV 10 (.bool false) rfl (by kernel_rfl) (by kernel_rfl) (by kernel_rfl) (fun _ _ _ h => h) (by rfl) (fun w _ => rfl) hH11 ?_
  simp only [Act.put, List.setIfInBounds_toArray, List.set_cons_zero, List.set_cons_succ]
  refine takeV 11 (.bool false) rfl (by kernel_rfl) (by kernel_rfl) (by kernel_rfl) (fun _ _ _ h => h) (by rfl) (fun w _ => rfl) hH11 ?_
  simp only [Act.put, List.setIfInBounds_toArray, List.set_cons_zero, List.set_cons_succ]
  refine takeV 12 (.int .i64 (leg (a))) rfl (by kernel_rfl) (by kernel_rfl) (by kernel_rfl) (fun _ _ _ h => h) (by rfl) (fun w _ => rfl) hH11 ?_
  simp only [Act.put, List.setIfInBounds_toArray, List.set_cons_zero, List.set_cons_succ]
  refine takeV 13 (.bool false) rfl (by kernel_rfl) (by kernel_rfl) (by kernel_rfl) (fun _ _ _ h => h) (by rfl) (fun w _ => exec_gtrI rfl (leg (a)) (1) rfl rfl false (decide_eq_false (Int.not_lt.2 hhi.out))) hH11 ?_
  simp only [Act.put, List.setIfInBounds_toArray, List.set_cons_zero, List.set_cons_succ]
  refine takeV 14 (.bool false) rfl (by kernel_rfl) (by kernel_rfl) (by kernel_rfl) (fun _ _ _ h => h) (by rfl) (fun w _ => rfl) hH11 ?_
  simp only [Act.put, List.setIfInBounds_toArray, List.set_cons_zero, List.set_cons_succ]
  refine wpAnyH_done (by kernel_rfl) ?_ _
  refine NoPanic.normal ?_
  obtain ⟨hE12, hW12⟩ := hH11
  repeat ((fail_if_success (with_reducible show Code.wp _ (Code.region _ _ _) _ _ _)); go_step)
  apply wp_region_lit
  refine wpList_load32 rfl _ rfl _ rfl (a) (hE12 _ (.tail _ (.head _))) ?_
  simp only [Act.put, List.setIfInBounds_toArray, List.set_cons_zero, List.set_cons_succ]
  refine wpList_load32 rfl _ rfl _ rfl (b) (hE12 _ (.tail _ (.tail _ (.head _)))) ?_
  simp only [Act.put, List.setIfInBounds_toArray, List.set_cons_zero, List.set_cons_succ]
  go_wp2_with fail
  refine Calls.mono (Mul_f (a) (b) ha hb _) ?_
  rintro e w13 ⟨rfl, hg13⟩
  dsimp only
  go_step
  have hE13 := hE12.grown hg13
  have hW13 := grown_trans hW12 hg13
  clear hE12 hW12 hg13
  go_wp2_with fail
  refine Calls.mono (Legendre_any (fmul (a) (b)) (fmul_lt _ _) _ (rangeAt_grown hG hW13) (rangeAt_grown hO hW13)) ?_
  rintro e w14 ⟨rfl, hg14⟩
  dsimp only
  go_step
  have hE14 := hE13.grown hg14
  have hW14 := grown_trans hW13 hg14
  clear hE13 hW13 hg14
  refine wpList_val (.int .i64 (leg (a))) rfl rfl ?_
  simp only [Act.put, List.setIfInBounds_toArray, List.set_cons_zero, List.set_cons_succ]
  refine wpList_val (.int .i64 (leg (b))) rfl rfl ?_
  simp only [Act.put, List.setIfInBounds_toArray, List.set_cons_zero, List.set_cons_succ]
  refine wpList_val (.int .i64 (leg (a) * leg (b))) rfl (exec_mulI rfl (leg (a)) (leg (b)) (leg (a) * leg (b)) rfl rfl (hm1.out)) ?_
  simp only [Act.put, List.setIfInBounds_toArray, List.set_cons_zero, List.set_cons_succ]
  refine wpList_val (.bool true) rfl (exec_eqlI rfl (leg (fmul (a) (b))) (leg (a) * leg (b)) rfl rfl true (decide_eq_true (leg_mul a b))) ?_
  simp only [Act.put, List.setIfInBounds_toArray, List.set_cons_zero, List.set_cons_succ]
  refine wpList_val (.bool true) rfl rfl ?_
  simp only [Act.put, List.setIfInBounds_toArray, List.set_cons_zero, List.set_cons_succ]
  refine wpList_load32G (by rfl) _ rfl _ rfl (a) (hE14 _ (.tail _ (.head _))) ?_
  simp only [Act.put, List.setIfInBounds_toArray, List.set_cons_zero, List.set_cons_succ]
  refine wpList_step (fun K hK => ?_)
  rw [if_pos (by rfl)]
  go_simp
  refine Calls.mono (Square_f (a) ha _) ?_
  rintro e w15 ⟨rfl, hg15⟩
  dsimp only
  refine hK _ _ ?_
  clear hK K
  have hE15 := hE14.grown hg15
  have hW15 := grown_trans hW14 hg15
  clear hE14 hW14 hg15
  refine wpList_step (fun K hK => ?_)
  rw [if_pos (by rfl)]
  go_simp
  refine Calls.mono (Legendre_any (fmul (a) (a)) (fmul_lt _ _) _ (rangeAt_grown hG hW15) (rangeAt_grown hO hW15)) ?_
  rintro e w16 ⟨rfl, hg16⟩
  dsimp only
  refine hK _ _ ?_
  clear hK K
  have hE16 := hE15.grown hg16
  have hW16 := grown_trans hW15 hg16
  clear hE15 hW15 hg16
  refine wpList_valG (.int .i64 (leg (a))) (by rfl) rfl ?_
  simp only [Act.put, List.setIfInBounds_toArray, List.set_cons_zero, List.set_cons_succ]
  refine wpList_valG (.int .i64 (leg (a))) (by rfl) rfl ?_
  simp only [Act.put, List.setIfInBounds_toArray, List.set_cons_zero, List.set_cons_succ]
  refine wpList_valG (.int .i64 (leg (a) * leg (a))) (by rfl) (exec_mulI rfl (leg (a)) (leg (a)) (leg (a) * leg (a)) rfl rfl (hm2.out)) ?_
  simp only [Act.put, List.setIfInBounds_toArray, List.set_cons_zero, List.set_cons_succ]
  refine wpList_valG (.bool true) (by rfl) (exec_eqlI rfl (leg (fmul (a) (a))) (leg (a) * leg (a)) rfl rfl true (decide_eq_true (leg_mul a a))) ?_
  simp only [Act.put, List.setIfInBounds_toArray, List.set_cons_zero, List.set_cons_succ]
  refine wpList_val (.bool true) rfl rfl ?_
  simp only [Act.put, List.setIfInBounds_toArray, List.set_cons_zero, List.set_cons_succ]
  refine wpList_val (.bool true) rfl rfl ?_
  simp only [Act.put, List.setIfInBounds_toArray, List.set_cons_zero, List.set_cons_succ]
  apply wpList_nil
  repeat ((fail_if_success (with_reducible show Code.wp _ (Code.region _ _ _) _ _ _)); go_step)
  repeat go_step
  go_ret
  exact ⟨rfl, by first | assumption | exact hW16⟩

set_option maxRecDepth 100000 in
set_option maxHeartbeats 4000000 in
theorem symbols_walk1 (a b u t : Nat) (ha : a < M) (hb : b < M) (hu : Hid (u = 1)) (huM : u < M) (ht : Hid (t = 2)) (htM : t < M) (hl1 : Hid (leg (ng u) = 1)) (hl2 : Hid (leg t = -1))
    (hlo : Hid (-1 ≤ leg a)) (hhi : Hid (leg a ≤ 1)) (hm1 : Hid (IntKind.i64.wrap (leg a * leg b) = leg a * leg b)) (hm2 : Hid (IntKind.i64.wrap (leg a * leg a) = leg a * leg a)) (hz : Hid (¬ leg a = 0)) (hf : Hid (¬ fred a = 0))
    (w : World) (hG : w.rangeAt 2 0 PW) (hO : w.rangeAt 0 0 (nl 1)) :
    Calls Tryd.prog 4 #[bv a, bv b] w fun e w' => e = .returned (.bool true) ∧ Grown w w' := by
  rw [bv, bv]
  go_enter Tryd.func4, Tryd.ntmps4
  go_wp2_with (with_reducible show wpList _ _ _ ({ dst := _, op := Op.load 22 _, type := _, pos := _, after := _, guard := _ } :: _) _ _; refine Shut.out ?_)
  show wpList _ _ _ _ _ _
  obtain ⟨hE0, hW0⟩ := params2 w a b
  generalize ((w.alloc (Obj.cells (bl a).toArray 22)).alloc (Obj.cells (bl b).toArray 22)) = W0 at hE0 hW0 ⊢
  refine wpList_load32 rfl _ rfl _ rfl (a) (hE0 _ (.head _)) ?_
  simp only [Act.put, List.setIfInBounds_toArray, List.set_cons_zero, List.set_cons_succ]
  go_wp2_with fail
  refine Calls.mono (Legendre_any (a) ha _ (rangeAt_grown hG hW0) (rangeAt_grown hO hW0)) ?_
  rintro e w1 ⟨rfl, hg1⟩
  dsimp only
  go_step
  have hE1 := hE0.grown hg1
  have hW1 := grown_trans hW0 hg1
  clear hE0 hW0 hg1
  refine wpList_val (.int .i64 (leg (a))) rfl rfl ?_
  simp only [Act.put, List.setIfInBounds_toArray, List.set_cons_zero, List.set_cons_succ]
  apply wpList_nil
  repeat ((fail_if_success (with_reducible show Code.wp _ (Code.region _ _ _) _ _ _)); go_step)
  apply wp_region_lit
  refine wpList_load32 rfl _ rfl _ rfl (b) (hE1 _ (.tail _ (.head _))) ?_
  simp only [Act.put, List.setIfInBounds_toArray, List.set_cons_zero, List.set_cons_succ]
  go_wp2_with fail
  refine Calls.mono (Legendre_any (b) hb _ (rangeAt_grown hG hW1) (rangeAt_grown hO hW1)) ?_
  rintro e w2 ⟨rfl, hg2⟩
  dsimp only
  go_step
  have hE2 := hE1.grown hg2
  have hW2 := grown_trans hW1 hg2
  clear hE1 hW1 hg2
  refine wpList_val (.int .i64 (leg (b))) rfl rfl ?_
  simp only [Act.put, List.setIfInBounds_toArray, List.set_cons_zero, List.set_cons_succ]
  apply wpList_nil
  repeat ((fail_if_success (with_reducible show Code.wp _ (Code.region _ _ _) _ _ _)); go_step)
  apply wp_region_lit
  go_wp2_with fail
  refine Calls.mono (number_nat 0 (by decide) 0 rfl _) ?_
  rintro e w3 ⟨rfl, hg3⟩
  dsimp only
  go_step
  have hE3 := hE2.grown hg3
  have hW3 := grown_trans hW2 hg3
  clear hE2 hW2 hg3
  go_wp2_with (with_reducible show wpList _ _ _ ({ dst := _, op := Op.store 22 _ _, type := _, pos := _, after := _, guard := _ } :: _) _ _; refine Shut.out ?_)
  show wpList _ _ _ _ _ _
  refine wpList_store_new (0) (by simp) rfl rfl rfl rfl (fun w4 hg4 hr4 _ => ?_)
  simp only [Act.put]
  have hE4 := (hE3.grown hg4).cons hr4
  have hW4 := grown_trans hW3 hg4
  clear hE3 hW3 hg4 hr4
  apply wpList_nil
  repeat ((fail_if_success (with_reducible show Code.wp _ (Code.region _ _ _) _ _ _)); go_step)
  apply wp_region_lit
  go_wp2_with fail
  refine Calls.mono (number_nat u (by rw [hu.out]; decide) 1 (by rw [hu.out]; rfl) _) ?_
  rintro e w5 ⟨rfl, hg5⟩
  dsimp only
  go_step
  have hE5 := hE4.grown hg5
  have hW5 := grown_trans hW4 hg5
  clear hE4 hW4 hg5
  go_wp2_with fail
  refine Calls.mono (Neg_any (u) huM _) ?_
  rintro e w6 ⟨rfl, hg6⟩
  dsimp only
  go_step
  have hE6 := hE5.grown hg6
  have hW6 := grown_trans hW5 hg6
  clear hE5 hW5 hg6
  go_wp2_with fail
  refine Calls.mono (Legendre_any (ng (u)) (fng_lt _) _ (rangeAt_grown hG hW6) (rangeAt_grown hO hW6)) ?_
  rintro e w7 ⟨rfl, hg7⟩
  dsimp only
  go_step
  have hE7 := hE6.grown hg7
  have hW7 := grown_trans hW6 hg7
  clear hE6 hW6 hg7
  refine wpList_val (.bool false) rfl (exec_neqI rfl (leg (ng (u))) (1) rfl rfl false (by rw [hl1.out]; rfl)) ?_
  simp only [Act.put, List.setIfInBounds_toArray, List.set_cons_zero, List.set_cons_succ]
  refine wpList_val (.bool false) rfl rfl ?_
  simp only [Act.put, List.setIfInBounds_toArray, List.set_cons_zero, List.set_cons_succ]
  refine wpList_step (fun K hK => ?_)
  rw [if_pos (by rfl)]
  go_simp
  refine Calls.mono (number_nat t (by rw [ht.out]; decide) 2 (by rw [ht.out]; rfl) _) ?_
  rintro e w8 ⟨rfl, hg8⟩
  dsimp only
  refine hK _ _ ?_
  clear hK K
  have hE8 := hE7.grown hg8
  have hW8 := grown_trans hW7 hg8
  clear hE7 hW7 hg8
  refine wpList_step (fun K hK => ?_)
  rw [if_pos (by rfl)]
  go_simp
  refine Calls.mono (Legendre_any (t) htM _ (rangeAt_grown hG hW8) (rangeAt_grown hO hW8)) ?_
  rintro e w9 ⟨rfl, hg9⟩
  dsimp only
  refine hK _ _ ?_
  clear hK K
  have hE9 := hE8.grown hg9
  have hW9 := grown_trans hW8 hg9
  clear hE8 hW8 hg9
  refine wpList_valG (.bool false) (by rfl) (exec_neqI rfl (leg (t)) ((-1)) rfl rfl false (by rw [hl2.out]; rfl)) ?_
  simp only [Act.put, List.setIfInBounds_toArray, List.set_cons_zero, List.set_cons_succ]
  refine wpList_val (.bool false) rfl rfl ?_
  simp only [Act.put, List.setIfInBounds_toArray, List.set_cons_zero, List.set_cons_succ]
  apply wpList_nil
  repeat ((fail_if_success (with_reducible show Code.wp _ (Code.region _ _ _) _ _ _)); go_step)
  refine wp_region_noPanic ?_
  refine wp_region_held_drew (S := fun w' => Holds [(w3.heap.size, 0), (w.heap.size, a), (w.heap.size + 1, b)] w' ∧ Grown w w') (by kernel_rfl) ⟨hE9, hW9⟩ (fun hH10 => ?_)
  clear hE9 hW9
  refine takeV 0 (.int .i64 (leg (a))) rfl (by kernel_rfl) (by kernel_rfl) (by kernel_rfl) (fun _ _ _ h => h) (by rfl) (fun w _ => rfl) hH10 ?_
  simp only [Act.put, List.setIfInBounds_toArray, List.set_cons_zero, List.set_cons_succ]
  refine takeV 1 (.bool false) rfl (by kernel_rfl) (by kernel_rfl) (by kernel_rfl) (fun _ _ _ h => h) (by rfl) (fun w _ => exec_eqlI rfl (leg (a)) (0) rfl rfl false (decide_eq_false hz.out)) hH10 ?_
  simp only [Act.put, List.setIfInBounds_toArray, List.set_cons_zero, List.set_cons_succ]
  refine take32 2 (a) (w.heap.size) rfl (by kernel_rfl) (by kernel_rfl) (by kernel_rfl) (fun _ _ _ h => h) (by rfl) rfl rfl (fun _ h => h.1 _ (.tail _ (.head _))) hH10 ?_
  simp only [Act.put, List.setIfInBounds_toArray, List.set_cons_zero, List.set_cons_succ]
  refine take32 4 (0) (w3.heap.size) rfl (by kernel_rfl) (by kernel_rfl) (by kernel_rfl) (fun _ _ _ h => h) (by rfl) rfl rfl (fun _ h => h.1 _ (.head _)) hH10 ?_
  simp only [Act.put, List.setIfInBounds_toArray, List.set_cons_zero, List.set_cons_succ]
  refine step1 3 (by kernel_rfl) rfl (fun K hK => ?_)
  rw [if_pos (by rfl)]
  go_simp
  refine Calls.mono (Reduce_f (a) ha _) ?_
  rintro e w11 ⟨rfl, hg11⟩
  dsimp only
  refine hK.out _ _ (keepE hH10 hg11) (fun hH11 => ?_)
  clear hK K
  clear hH10
  clear hg11
  refine takeV 5 (.bool false) rfl (by kernel_rfl) (by kernel_rfl) (by kernel_rfl) (fun _ _ _ h => h) (by rfl) (fun w _ => exec_eql_apart rfl (fred (a)) (0) rfl rfl (fred_lt _) (by decide) (hf.out) w) hH11 ?_
  simp only [Act.put, List.setIfInBounds_toArray, List.set_cons_zero, List.set_cons_succ]
  refine takeV 6 (.bool false) rfl (by kernel_rfl) (by kernel_rfl) (by kernel_rfl) (fun _ _ _ h => h) (by rfl) (fun w _ => by first | rfl | go_simp) hH11 ?_
  simp only [Act.put, List.setIfInBounds_toArray, List.set_cons_zero, List.set_cons_succ]
  refine takeV 7 (.bool false) rfl (by kernel_rfl) (by kernel_rfl) (by kernel_rfl) (fun _ _ _ h => h) (by rfl) (fun w _ => rfl) hH11 ?_
  simp only [Act.put, List.setIfInBounds_toArray, List.set_cons_zero, List.set_cons_succ]
  refine takeV 8 (.int .i64 (leg (a))) rfl (by kernel_rfl) (by kernel_rfl) (by kernel_rfl) (fun _ _ _ h => h) (by rfl) (fun w _ => rfl) hH11 ?_
  simp only [Act.put, List.setIfInBounds_toArray, List.set_cons_zero, List.set_cons_succ]
  refine takeV 9 (.bool false) rfl (by kernel_rfl) (by kernel_rfl) (by kernel_rfl) (fun _ _ _ h => h) (by rfl) (fun w _ => exec_lssI rfl (leg (a)) ((-1)) rfl rfl false (decide_eq_false (Int.not_lt.2 hlo.out))) hH11 ?_
  simp only [Act.put, List.setIfInBounds_toArray, List.set_cons_zero, List.set_cons_succ]
  refine takeV 10 (.bool false) rfl (by kernel_rfl) (by kernel_rfl) (by kernel_rfl) (fun _ _ _ h => h) (by rfl) (fun w _ => rfl) hH11 ?_
  simp only [Act.put, List.setIfInBounds_toArray, List.set_cons_zero, List.set_cons_succ]
  refine takeV 11 (.bool false) rfl (by kernel_rfl) (by kernel_rfl) (by kernel_rfl) (fun _ _ _ h => h) (by rfl) (fun w _ => rfl) hH11 ?_
  simp only [Act.put, List.setIfInBounds_toArray, List.set_cons_zero, List.set_cons_succ]
  refine takeV 12 (.int .i64 (leg (a))) rfl (by kernel_rfl) (by kernel_rfl) (by kernel_rfl) (fun _ _ _ h => h) (by rfl) (fun w _ => rfl) hH11 ?_
  simp only [Act.put, List.setIfInBounds_toArray, List.set_cons_zero, List.set_cons_succ]
  refine takeV 13 (.bool false) rfl (by kernel_rfl) (by kernel_rfl) (by kernel_rfl) (fun _ _ _ h => h) (by rfl) (fun w _ => exec_gtrI rfl (leg (a)) (1) rfl rfl false (decide_eq_false (Int.not_lt.2 hhi.out))) hH11 ?_
  simp only [Act.put, List.setIfInBounds_toArray, List.set_cons_zero, List.set_cons_succ]
  refine takeV 14 (.bool false) rfl (by kernel_rfl) (by kernel_rfl) (by kernel_rfl) (fun _ _ _ h => h) (by rfl) (fun w _ => rfl) hH11 ?_
  simp only [Act.put, List.setIfInBounds_toArray, List.set_cons_zero, List.set_cons_succ]
  refine wpAnyH_done (by kernel_rfl) ?_ _
  refine NoPanic.normal ?_
  obtain ⟨hE12, hW12⟩ := hH11
  repeat ((fail_if_success (with_reducible show Code.wp _ (Code.region _ _ _) _ _ _)); go_step)
  apply wp_region_lit
  refine wpList_load32 rfl _ rfl _ rfl (a) (hE12 _ (.tail _ (.head _))) ?_
  simp only [Act.put, List.setIfInBounds_toArray, List.set_cons_zero, List.set_cons_succ]
  refine wpList_load32 rfl _ rfl _ rfl (b) (hE12 _ (.tail _ (.tail _ (.head _)))) ?_
  simp only [Act.put, List.setIfInBounds_toArray, List.set_cons_zero, List.set_cons_succ]
  go_wp2_with fail
  refine Calls.mono (Mul_f (a) (b) ha hb _) ?_
  rintro e w13 ⟨rfl, hg13⟩
  dsimp only
  go_step
  have hE13 := hE12.grown hg13
  have hW13 := grown_trans hW12 hg13
  clear hE12 hW12 hg13
  go_wp2_with fail
  refine Calls.mono (Legendre_any (fmul (a) (b)) (fmul_lt _ _) _ (rangeAt_grown hG hW13) (rangeAt_grown hO hW13)) ?_
  rintro e w14 ⟨rfl, hg14⟩
  dsimp only
  go_step
  have hE14 := hE13.grown hg14
  have hW14 := grown_trans hW13 hg14
  clear hE13 hW13 hg14
  refine wpList_val (.int .i64 (leg (a))) rfl rfl ?_
  simp only [Act.put, List.setIfInBounds_toArray, List.set_cons_zero, List.set_cons_succ]
  refine wpList_val (.int .i64 (leg (b))) rfl rfl ?_
  simp only [Act.put, List.setIfInBounds_toArray, List.set_cons_zero, List.set_cons_succ]
  refine wpList_val (.int .i64 (leg (a) * leg (b))) rfl (exec_mulI rfl (leg (a)) (leg (b)) (leg (a) * leg (b)) rfl rfl (hm1.out)) ?_
  simp only [Act.put, List.setIfInBounds_toArray, List.set_cons_zero, List.set_cons_succ]
  refine wpList_val (.bool true) rfl (exec_eqlI rfl (leg (fmul (a) (b))) (leg (a) * leg (b)) rfl rfl true (decide_eq_true (leg_mul a b))) ?_
  simp only [Act.put, List.setIfInBounds_toArray, List.set_cons_zero, List.set_cons_succ]
  refine wpList_val (.bool true) rfl rfl ?_
  simp only [Act.put, List.setIfInBounds_toArray, List.set_cons_zero, List.set_cons_succ]
  refine wpList_load32G (by rfl) _ rfl _ rfl (a) (hE14 _ (.tail _ (.head _))) ?_
  simp only [Act.put, List.setIfInBounds_toArray, List.set_cons_zero, List.set_cons_succ]
  refine wpList_step (fun K hK => ?_)
  rw [if_pos (by rfl)]
  go_simp
  refine Calls.mono (Square_f (a) ha _) ?_
  rintro e w15 ⟨rfl, hg15⟩
  dsimp only
  refine hK _ _ ?_
  clear hK K
  have hE15 := hE14.grown hg15
  have hW15 := grown_trans hW14 hg15
  clear hE14 hW14 hg15
  refine wpList_step (fun K hK => ?_)
  rw [if_pos (by rfl)]
  go_simp
  refine Calls.mono (Legendre_any (fmul (a) (a)) (fmul_lt _ _) _ (rangeAt_grown hG hW15) (rangeAt_grown hO hW15)) ?_
  rintro e w16 ⟨rfl, hg16⟩
  dsimp only
  refine hK _ _ ?_
  clear hK K
  have hE16 := hE15.grown hg16
  have hW16 := grown_trans hW15 hg16
  clear hE15 hW15 hg16
  refine wpList_valG (.int .i64 (leg (a))) (by rfl) rfl ?_
  simp only [Act.put, List.setIfInBounds_toArray, List.set_cons_zero, List.set_cons_succ]
  refine wpList_valG (.int .i64 (leg (a))) (by rfl) rfl ?_
  simp only [Act.put, List.setIfInBounds_toArray, List.set_cons_zero, List.set_cons_succ]
  refine wpList_valG (.int .i64 (leg (a) * leg (a))) (by rfl) (exec_mulI rfl (leg (a)) (leg (a)) (leg (a) * leg (a)) rfl rfl (hm2.out)) ?_
  simp only [Act.put, List.setIfInBounds_toArray, List.set_cons_zero, List.set_cons_succ]
  refine wpList_valG (.bool true) (by rfl) (exec_eqlI rfl (leg (fmul (a) (a))) (leg (a) * leg (a)) rfl rfl true (decide_eq_true (leg_mul a a))) ?_
  simp only [Act.put, List.setIfInBounds_toArray, List.set_cons_zero, List.set_cons_succ]
  refine wpList_val (.bool true) rfl rfl ?_
  simp only [Act.put, List.setIfInBounds_toArray, List.set_cons_zero, List.set_cons_succ]
  refine wpList_val (.bool true) rfl rfl ?_
  simp only [Act.put, List.setIfInBounds_toArray, List.set_cons_zero, List.set_cons_succ]
  apply wpList_nil
  repeat ((fail_if_success (with_reducible show Code.wp _ (Code.region _ _ _) _ _ _)); go_step)
  repeat go_step
  go_ret
  exact ⟨rfl, by first | assumption | exact hW16⟩
end Go.Proofs.YtfnbodpbdfeiiaaDoor
