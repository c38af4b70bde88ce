import Derived.Test.YteijccjdejjbjaaDoorPd
namespace Go.Proofs.YteijccjdejjbjaaDoor
open Go.RowKit Go.Shelf ScalarNum

theorem keep3b {W w1 w2 : World} {b1 b2 b3 : Nat} {xs ys : List Value} (h : w1.rangeAt b1 0 xs ∧ w1.rangeAt b2 0 ys ∧ w1.there b3 0 32 ∧ Grown W w1) (hg : Grown w1 w2) :
    w2.rangeAt b1 0 xs ∧ w2.rangeAt b2 0 ys ∧ w2.there b3 0 32 ∧ Grown W w2 :=
  ⟨rangeAt_grown h.1 hg, rangeAt_grown h.2.1 hg, there_grown h.2.2.1 hg, grown_trans h.2.2.2 hg⟩
theorem M_pow : M = 256 ^ 32 := by decide
theorem sum_lt {x y : Nat} (hx : x < M) (hy : y < M) : x + y < 256 ^ 33 := by
  have : M + M ≤ 256 ^ 33 := by decide
  omega

set_option maxRecDepth 100000 in
set_option maxHeartbeats 1000000 in
theorem refAdd_num (x y : Nat) (hx : x < M) (hy : y < M) (w : World) (hO : w.rangeAt 1 0 (yl 32 L)) : Calls Tryd.prog 30 #[yv 32 x, yv 32 y] w fun e w' => e = .returned (yv 32 (sadd x y)) ∧ Grown w w' := by
  have h0 := alloc3b w 23 (yl 32 x) (yl 32 y) (yl 32 0).toArray
  rw [show (yl 32 0).toArray.size = 32 from rfl] at h0
  have HO := Hid.of hO
  clear hO
  rw [yv, yv]
  go_enter Tryd.func30, Tryd.ntmps30
  go_wp2
  rw [← yl32_zero]
  generalize (((w.alloc (.cells (yl 32 x).toArray 23)).alloc (.cells (yl 32 y).toArray 23)).alloc (.cells (yl 32 0).toArray 23)) = W0 at *
  refine wp_region_noPanic ?_
  refine wp_region_held_drew (S := fun w' => w'.rangeAt w.heap.size 0 (yl 32 x) ∧ w'.rangeAt (w.heap.size + 1) 0 (yl 32 y) ∧ w'.there (w.heap.size + 1 + 1) 0 32 ∧ Grown w w') (by kernel_rfl) h0 (fun hH => ?_)
  clear h0
  refine take32 0 (x) (w.heap.size) rfl (by kernel_rfl) (by kernel_rfl) (by kernel_rfl) (fun _ _ _ h => h) (by rfl) rfl rfl (fun _ h => h.1) hH ?_
  simp only [Act.put, List.setIfInBounds_toArray, List.set_cons_zero, List.set_cons_succ]
  refine take32 2 (y) (w.heap.size + 1) rfl (by kernel_rfl) (by kernel_rfl) (by kernel_rfl) (fun _ _ _ h => h) (by rfl) rfl rfl (fun _ h => h.2.1) hH ?_
  simp only [Act.put, List.setIfInBounds_toArray, List.set_cons_zero, List.set_cons_succ]
  refine step1 1 (by kernel_rfl) rfl (fun K hK => ?_)
  go_simp
  refine Calls.mono (list_num x _) ?_
  rintro e w1 ⟨⟨v1, rfl, hs1⟩, hg1⟩
  dsimp only
  refine hK.out _ _ (keep3b hH hg1) (fun hH => ?_)
  clear hK K
  refine step1 3 (by kernel_rfl) rfl (fun K hK => ?_)
  go_simp
  refine Calls.mono (list_num y _) ?_
  rintro e w2 ⟨⟨v2, rfl, hs2⟩, hg2⟩
  dsimp only
  refine hK.out _ _ (keep3b hH hg2) (fun hH => ?_)
  clear hK K
  obtain ⟨g1, c1, rfl, r1⟩ := hs1.grown hg2
  obtain ⟨g2, c2, rfl, r2⟩ := hs2
  clear hs1
  refine step1 4 (by kernel_rfl) rfl (fun K hK => ?_)
  go_simp
  refine Calls.mono (added_num g1 32 c1 x g2 32 c2 y (by decide) (by decide) (by rw [← M_pow]; exact hx) (by rw [← M_pow]; exact hy) _ r1 r2) ?_
  rintro e w3 ⟨⟨v3, rfl, hs3⟩, hg3⟩
  dsimp only
  refine hK.out _ _ (keep3b hH hg3) (fun hH => ?_)
  clear hK K
  obtain ⟨g3, c3, rfl, r3⟩ := hs3
  refine step1 5 (by kernel_rfl) rfl (fun K hK => ?_)
  go_simp
  refine Calls.mono (rest_num g3 33 (x + y) c3 (by decide) (sum_lt hx hy) _ r3 (rangeAt_grown HO.out hH.2.2.2)) ?_
  rintro e w4 ⟨rfl, hg4⟩
  dsimp only
  refine hK.out _ _ (keep3b hH hg4) (fun hH => ?_)
  clear hK K
  obtain ⟨hr1, hr2, hth, hgw⟩ := hH
  rw [show (x + y) % L = sadd x y from rfl]
  refine step1 6 (by kernel_rfl) rfl (fun K hK => ?_)
  refine store32 (sadd x y) (w.heap.size + 1 + 1) rfl (by rfl) rfl rfl hth ?_
  simp only [Act.put]
  refine hK.out _ _ ⟨World.rangeAt_setCells_apart hr1 _ _ _ (by left; omega), World.rangeAt_setCells_apart hr2 _ _ _ (by left; omega), World.there_setCells hth _ _ _, grown_setCells (by omega) _ _ hgw⟩ (fun _ => ?_)
  clear hK K
  refine wpAnyH_done (by kernel_rfl) ?_ _
  refine NoPanic.normal ?_
  repeat go_step
  refine bodyPost_ret (v := yv 32 (sadd x y)) (result32 Tryd.results30 _ _ (w.heap.size + 1 + 1) _ ?hp (World.rangeAt_setCells_same _ _ _ _ (by rw [yl_length]; exact hth))) ?hd ?_
  case hp => rfl
  case hd => rfl
  exact ⟨rfl, grown_setCells (by omega) _ _ hgw⟩

theorem pl_lt {x y z : Nat} (hx : x < M) (hy : y < M) (hz : z < M) : x * y + z < 256 ^ 65 := Nat.lt_trans (timesM hx hy hz) (by decide)
theorem mul_lt64 {x y : Nat} (hx : x < M) (hy : y < M) : x * y < 256 ^ 64 := by
  rw [show (256 : Nat) ^ 64 = M * M from by decide]; exact Nat.mul_lt_mul'' hx hy

set_option maxRecDepth 100000 in
set_option maxHeartbeats 1000000 in
theorem refMulAdd_num (x y z : Nat) (hx : x < M) (hy : y < M) (hz : z < M) (w : World) (hO : w.rangeAt 1 0 (yl 32 L)) : Calls Tryd.prog 29 #[yv 32 x, yv 32 y, yv 32 z] w fun e w' => e = .returned (yv 32 (smad x y z)) ∧ Grown w w' := by
  have h0 := alloc4b w 23 (yl 32 x) (yl 32 y) (yl 32 z) (yl 32 0).toArray
  rw [show (yl 32 0).toArray.size = 32 from rfl] at h0
  have HO := Hid.of hO
  clear hO
  rw [yv, yv, yv]
  go_enter Tryd.func29, Tryd.ntmps29
  go_wp2
  rw [← yl32_zero]
  generalize ((((w.alloc (.cells (yl 32 x).toArray 23)).alloc (.cells (yl 32 y).toArray 23)).alloc (.cells (yl 32 z).toArray 23)).alloc (.cells (yl 32 0).toArray 23)) = W0 at *
  refine wp_region_noPanic ?_
  refine wp_region_held_drew (S := fun w' => w'.rangeAt w.heap.size 0 (yl 32 x) ∧ w'.rangeAt (w.heap.size + 1) 0 (yl 32 y) ∧ w'.rangeAt (w.heap.size + 1 + 1) 0 (yl 32 z) ∧ w'.there (w.heap.size + 1 + 1 + 1) 0 32 ∧ Grown w w') (by kernel_rfl) h0 (fun hH => ?_)
  clear h0
  refine take32 0 (x) (w.heap.size) rfl (by kernel_rfl) (by kernel_rfl) (by kernel_rfl) (fun _ _ _ h => h) (by rfl) rfl rfl (fun _ h => h.1) hH ?_
  simp only [Act.put, List.setIfInBounds_toArray, List.set_cons_zero, List.set_cons_succ]
  refine take32 2 (y) (w.heap.size + 1) rfl (by kernel_rfl) (by kernel_rfl) (by kernel_rfl) (fun _ _ _ h => h) (by rfl) rfl rfl (fun _ h => h.2.1) hH ?_
  simp only [Act.put, List.setIfInBounds_toArray, List.set_cons_zero, List.set_cons_succ]
  refine step1 1 (by kernel_rfl) rfl (fun K hK => ?_)
  go_simp
  refine Calls.mono (list_num x _) ?_
  rintro e w1 ⟨⟨v1, rfl, hs1⟩, hg1⟩
  dsimp only
  refine hK.out _ _ (keep4 hH hg1) (fun hH => ?_)
  clear hK K
  refine step1 3 (by kernel_rfl) rfl (fun K hK => ?_)
  go_simp
  refine Calls.mono (list_num y _) ?_
  rintro e w2 ⟨⟨v2, rfl, hs2⟩, hg2⟩
  dsimp only
  refine hK.out _ _ (keep4 hH hg2) (fun hH => ?_)
  clear hK K
  obtain ⟨g1, c1, rfl, r1⟩ := hs1.grown hg2
  obtain ⟨g2, c2, rfl, r2⟩ := hs2
  clear hs1
  refine step1 4 (by kernel_rfl) rfl (fun K hK => ?_)
  go_simp
  refine Calls.mono (product_num g1 c1 x g2 c2 y hx hy _ r1 r2) ?_
  rintro e w3 ⟨⟨v3, rfl, hs3⟩, hg3⟩
  dsimp only
  refine hK.out _ _ (keep4 hH hg3) (fun hH => ?_)
  clear hK K
  refine takeV 5 v3 rfl (by kernel_rfl) (by kernel_rfl) (by kernel_rfl) (fun _ _ _ h => h) (by rfl) (fun w _ => rfl) hH ?_
  simp only [Act.put, List.setIfInBounds_toArray, List.set_cons_zero, List.set_cons_succ]
  refine wpAnyH_done (by kernel_rfl) ?_ _
  refine NoPanic.normal ?_
  have H9 := Hid.of hH
  have HS3 := Hid.of hs3
  clear hH hs3 hg1 hg2 hg3 r1 r2
  go_wp2_with (with_reducible show wpList _ _ _ ({ dst := _, op := Op.load 23 _, type := _, pos := _, after := _, guard := _ } :: _) _ _; refine Shut.out ?_)
  show wpList _ _ _ _ _ _
  refine wpList_load32 rfl _ rfl (w.heap.size + 1 + 1) rfl z H9.out.2.2.1 ?_
  simp only [Act.put, List.setIfInBounds_toArray, List.set_cons_zero, List.set_cons_succ]
  go_wp2_with fail
  refine Calls.mono (list_num z _) ?_
  rintro e w4 ⟨⟨v4, rfl, hs4⟩, hg4⟩
  dsimp only
  obtain ⟨g3, c3, rfl, r3⟩ := HS3.out.grown hg4
  obtain ⟨g4, c4, rfl, r4⟩ := hs4
  go_wp2_with fail
  refine Calls.mono (added_num g3 64 c3 (x * y) g4 32 c4 z (by decide) (by decide) (mul_lt64 hx hy) (by rw [← M_pow]; exact hz) _ r3 r4) ?_
  rintro e w5 ⟨⟨v5, rfl, hs5⟩, hg5⟩
  dsimp only
  obtain ⟨g5, c5, rfl, r5⟩ := hs5
  go_wp2_with fail
  refine Calls.mono (rest_num g5 65 (x * y + z) c5 (by decide) (pl_lt hx hy hz) _ r5 (rangeAt_grown HO.out (grown_trans H9.out.2.2.2.2 (grown_trans hg4 hg5)))) ?_
  rintro e w6 ⟨rfl, hg6⟩
  dsimp only
  rw [show (x * y + z) % L = smad x y z from rfl]
  have gg := grown_trans hg4 (grown_trans hg5 hg6)
  have H8 := Hid.of (And.intro (there_grown H9.out.2.2.2.1 gg) (grown_trans H9.out.2.2.2.2 gg))
  clear H9 HS3 hg4 hg5 hg6 gg r3 r4 r5
  go_wp2_with (with_reducible show wpList _ _ _ ({ dst := _, op := Op.store 23 _ _, type := _, pos := _, after := _, guard := _ } :: _) _ _; refine Shut.out ?_)
  show wpList _ _ _ _ _ _
  refine wpList_store32 rfl _ _ rfl (w.heap.size + 1 + 1 + 1) (smad x y z) rfl rfl (H8.out.1) ?_
  simp only [Act.put]
  apply wpList_nil
  repeat go_step
  refine bodyPost_ret (v := yv 32 (smad x y z)) (result32 Tryd.results29 _ _ (w.heap.size + 1 + 1 + 1) _ ?hp (World.rangeAt_setCells_same _ _ _ _ (by rw [yl_length]; exact H8.out.1))) ?hd ?_
  case hp => rfl
  case hd => rfl
  exact ⟨rfl, grown_setCells (by omega) _ _ (H8.out.2)⟩
end Go.Proofs.YteijccjdejjbjaaDoor
