import Derived.Test.YteijccjdejjbjaaDoorAp
namespace Go.Proofs.YteijccjdejjbjaaDoor
open Go.RowKit Go.Shelf ScalarNum

theorem alloc4b (w : World) (t : TypeId) (c1 c2 c3 : List Value) (c4 : Array Value) :
    ((((w.alloc (.cells c1.toArray t)).alloc (.cells c2.toArray t)).alloc (.cells c3.toArray t)).alloc (.cells c4 t)).rangeAt w.heap.size 0 c1 ∧
    ((((w.alloc (.cells c1.toArray t)).alloc (.cells c2.toArray t)).alloc (.cells c3.toArray t)).alloc (.cells c4 t)).rangeAt (w.heap.size + 1) 0 c2 ∧
    ((((w.alloc (.cells c1.toArray t)).alloc (.cells c2.toArray t)).alloc (.cells c3.toArray t)).alloc (.cells c4 t)).rangeAt (w.heap.size + 1 + 1) 0 c3 ∧
    ((((w.alloc (.cells c1.toArray t)).alloc (.cells c2.toArray t)).alloc (.cells c3.toArray t)).alloc (.cells c4 t)).there (w.heap.size + 1 + 1 + 1) 0 c4.size ∧
    Grown w ((((w.alloc (.cells c1.toArray t)).alloc (.cells c2.toArray t)).alloc (.cells c3.toArray t)).alloc (.cells c4 t)) := by
  have g1 : ∀ (w : World) (t : TypeId) (a : Array Value), Grown w (w.alloc (.cells a t)) := fun w t a => Grown.alloc (Grown.refl _) _ _
  have s1 : (w.alloc (.cells c1.toArray t)).heap.size = w.heap.size + 1 := by simp
  have b1 := rangeAt_alloc_new w t c1
  have gV1 := g1 w t c1.toArray
  generalize w.alloc (.cells c1.toArray t) = V1 at *
  have s2 : (V1.alloc (.cells c2.toArray t)).heap.size = w.heap.size + 1 + 1 := by simp [s1]
  have b2 := rangeAt_alloc_new V1 t c2
  rw [s1] at b2
  have gV2 := g1 V1 t c2.toArray
  generalize V1.alloc (.cells c2.toArray t) = V2 at *
  have s3 : (V2.alloc (.cells c3.toArray t)).heap.size = w.heap.size + 1 + 1 + 1 := by simp [s2]
  have b3 := rangeAt_alloc_new V2 t c3
  rw [s2] at b3
  have gV3 := g1 V2 t c3.toArray
  generalize V2.alloc (.cells c3.toArray t) = V3 at *
  have b4 := there_alloc_new V3 t c4 c4.size (Nat.le_refl _)
  rw [s3] at b4
  have g23 := grown_trans gV3 (g1 V3 t c4)
  exact ⟨rangeAt_grown (rangeAt_grown b1 gV2) g23, rangeAt_grown b2 g23, rangeAt_grown b3 (g1 _ _ _), b4, grown_trans (grown_trans gV1 gV2) g23⟩

theorem keep4 {W w1 w2 : World} {b1 b2 b3 b4 : Nat} {xs ys zs : List Value} (h : w1.rangeAt b1 0 xs ∧ w1.rangeAt b2 0 ys ∧ w1.rangeAt b3 0 zs ∧ w1.there b4 0 32 ∧ Grown W w1) (hg : Grown w1 w2) :
    w2.rangeAt b1 0 xs ∧ w2.rangeAt b2 0 ys ∧ w2.rangeAt b3 0 zs ∧ w2.there b4 0 32 ∧ Grown W w2 :=
  ⟨rangeAt_grown h.1 hg, rangeAt_grown h.2.1 hg, rangeAt_grown h.2.2.1 hg, there_grown h.2.2.2.1 hg, grown_trans h.2.2.2.2 hg⟩

set_option maxRecDepth 100000 in
set_option maxHeartbeats 1000000 in
theorem MulAdd_num (x y z : Nat) (hx : x < M) (hy : y < M) (hz : z < M) (w : World) (hT : Tab w) : Calls Tryd.prog 20 #[yv 32 x, yv 32 y, yv 32 z] w fun e w' => e = .returned (yv 32 (smad x y z)) ∧ Grown w w' := by
  have h0 := alloc4b w 23 (yl 32 x) (yl 32 y) (yl 32 z) (yl 32 0).toArray
  rw [show (yl 32 0).toArray.size = 32 from rfl] at h0
  have HT := Hid.of hT
  clear hT
  rw [yv, yv, yv]
  go_enter Tryd.func20, Tryd.ntmps20
  go_wp2
  rw [← yl32_zero]
  generalize ((((w.alloc (.cells (yl 32 x).toArray 23)).alloc (.cells (yl 32 y).toArray 23)).alloc (.cells (yl 32 z).toArray 23)).alloc (.cells (yl 32 0).toArray 23)) = W0 at *
  refine wp_region_noPanic ?_
  refine wp_region_held_drew (S := fun w' => w'.rangeAt w.heap.size 0 (yl 32 x) ∧ w'.rangeAt (w.heap.size + 1) 0 (yl 32 y) ∧ w'.rangeAt (w.heap.size + 1 + 1) 0 (yl 32 z) ∧ w'.there (w.heap.size + 1 + 1 + 1) 0 32 ∧ Grown w w') (by kernel_rfl) h0 (fun hH => ?_)
  clear h0
  refine take32 0 (x) (w.heap.size) rfl (by kernel_rfl) (by kernel_rfl) (by kernel_rfl) (fun _ _ _ h => h) (by rfl) rfl rfl (fun _ h => h.1) hH ?_
  simp only [Act.put, List.setIfInBounds_toArray, List.set_cons_zero, List.set_cons_succ]
  refine take32 2 (y) (w.heap.size + 1) rfl (by kernel_rfl) (by kernel_rfl) (by kernel_rfl) (fun _ _ _ h => h) (by rfl) rfl rfl (fun _ h => h.2.1) hH ?_
  simp only [Act.put, List.setIfInBounds_toArray, List.set_cons_zero, List.set_cons_succ]
  refine take32 4 (z) (w.heap.size + 1 + 1) rfl (by kernel_rfl) (by kernel_rfl) (by kernel_rfl) (fun _ _ _ h => h) (by rfl) rfl rfl (fun _ h => h.2.2.1) hH ?_
  simp only [Act.put, List.setIfInBounds_toArray, List.set_cons_zero, List.set_cons_succ]
  refine step1 1 (by kernel_rfl) rfl (fun K hK => ?_)
  go_simp
  refine Calls.mono (load_num x hx _) ?_
  rintro e w1 ⟨rfl, hg1⟩
  dsimp only
  refine hK.out _ _ (keep4 hH hg1) (fun hH => ?_)
  clear hK K
  refine step1 3 (by kernel_rfl) rfl (fun K hK => ?_)
  go_simp
  refine Calls.mono (load_num y hy _) ?_
  rintro e w2 ⟨rfl, hg2⟩
  dsimp only
  refine hK.out _ _ (keep4 hH hg2) (fun hH => ?_)
  clear hK K
  refine step1 5 (by kernel_rfl) rfl (fun K hK => ?_)
  go_simp
  refine Calls.mono (load_num z hz _) ?_
  rintro e w3 ⟨rfl, hg3⟩
  dsimp only
  refine hK.out _ _ (keep4 hH hg3) (fun hH => ?_)
  clear hK K
  refine step1 6 (by kernel_rfl) rfl (fun K hK => ?_)
  go_simp
  refine Calls.mono (times_num x y z hx hy hz _) ?_
  rintro e w4 ⟨rfl, hg4⟩
  dsimp only
  refine hK.out _ _ (keep4 hH hg4) (fun hH => ?_)
  clear hK K
  refine step1 7 (by kernel_rfl) rfl (fun K hK => ?_)
  go_simp
  refine Calls.mono (prod_num (x * y + z) (timesM hx hy hz) _ (HT.out.grown hH.2.2.2.2)) ?_
  rintro e w5 ⟨rfl, hg5⟩
  dsimp only
  refine hK.out _ _ (keep4 hH hg5) (fun hH => ?_)
  clear hK K
  refine step1 8 (by kernel_rfl) rfl (fun K hK => ?_)
  go_simp
  refine Calls.mono (bytes_num _ (modL_ltM _) _) ?_
  rintro e w6 ⟨rfl, hg6⟩
  dsimp only
  refine hK.out _ _ (keep4 hH hg6) (fun hH => ?_)
  clear hK K
  obtain ⟨hr1, hr2, hr3, hth, hgw⟩ := hH
  rw [show (x * y + z) % L = smad x y z from rfl]
  refine step1 9 (by kernel_rfl) rfl (fun K hK => ?_)
  refine store32 (smad x y z) (w.heap.size + 1 + 1 + 1) rfl (by rfl) rfl rfl hth ?_
  simp only [Act.put]
  refine hK.out _ _ ⟨World.rangeAt_setCells_apart hr1 _ _ _ (by left; omega), World.rangeAt_setCells_apart hr2 _ _ _ (by left; omega), World.rangeAt_setCells_apart hr3 _ _ _ (by left; omega), World.there_setCells hth _ _ _, grown_setCells (by omega) _ _ hgw⟩ (fun _ => ?_)
  clear hK K
  refine wpAnyH_done (by kernel_rfl) ?_ _
  refine NoPanic.normal ?_
  repeat go_step
  refine bodyPost_ret (v := yv 32 (smad x y z)) (result32 Tryd.results20 _ _ (w.heap.size + 1 + 1 + 1) _ ?hp (World.rangeAt_setCells_same _ _ _ _ (by rw [yl_length]; exact hth))) ?hd ?_
  case hp => rfl
  case hd => rfl
  exact ⟨rfl, grown_setCells (by omega) _ _ hgw⟩
end Go.Proofs.YteijccjdejjbjaaDoor
