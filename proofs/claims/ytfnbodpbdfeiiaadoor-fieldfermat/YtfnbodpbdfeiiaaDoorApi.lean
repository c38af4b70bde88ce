import Derived.Test.YtfnbodpbdfeiiaaDoorRg
namespace Go.Proofs.YtfnbodpbdfeiiaaDoor
open Go.RowKit Go.Shelf FieldNum

set_option maxHeartbeats 1000000 in
theorem Mul_any (x y : Nat) (hx : x < M) (hy : y < M) (w : World) :
    Calls Tryd.prog 11 #[bv x, bv y] w fun e w' => e = .returned (bv (x * y % p)) ∧ Grown w w' := by
  rw [bv, bv]
  go_enter Tryd.func11, Tryd.ntmps11
  go_wp2
  refine wp_region_noPanic ?_
  refine wp_region_held_drew (S := fun w' => w'.rangeAt w.heap.size 0 (bl x) ∧ w'.rangeAt (w.heap.size + 1) 0 (bl y) ∧ w'.there (w.heap.size + 1 + 1) 0 32 ∧ Grown w w') (by kernel_rfl) (start3 w (bl x) (bl y) _ (by simp)) (fun hH => ?_)
  refine take32 0 (x) (w.heap.size) rfl (by kernel_rfl) (by kernel_rfl) (by kernel_rfl) (fun _ _ _ h => h) (by rfl) rfl rfl (fun _ h => h.1) hH ?_
  simp only [Act.put, List.setIfInBounds_toArray, List.set_cons_zero, List.set_cons_succ]
  refine take32 2 (y) (w.heap.size + 1) rfl (by kernel_rfl) (by kernel_rfl) (by kernel_rfl) (fun _ _ _ h => h) (by rfl) rfl rfl (fun _ h => h.2.1) hH ?_
  simp only [Act.put, List.setIfInBounds_toArray, List.set_cons_zero, List.set_cons_succ]
  refine step1 1 (by kernel_rfl) rfl (fun K hK => ?_)
  go_simp
  refine Calls.mono (load_num x _) ?_
  rintro e w1 ⟨rfl, hg1⟩
  dsimp only
  refine hK.out _ _ (keep3 hH hg1) (fun hH => ?_)
  clear hK K
  refine step1 3 (by kernel_rfl) rfl (fun K hK => ?_)
  go_simp
  refine Calls.mono (load_num y _) ?_
  rintro e w2 ⟨rfl, hg2⟩
  dsimp only
  refine hK.out _ _ (keep3 hH hg2) (fun hH => ?_)
  clear hK K
  refine step1 4 (by kernel_rfl) rfl (fun K hK => ?_)
  go_simp
  refine Calls.mono (times_num x y hx hy _) ?_
  rintro e w3 ⟨⟨z, rfl, hz, hzp⟩, hg3⟩
  dsimp only
  refine hK.out _ _ (keep3 hH hg3) (fun hH => ?_)
  clear hK K
  refine step1 5 (by kernel_rfl) rfl (fun K hK => ?_)
  go_simp
  refine Calls.mono (bytes_num z hz _) ?_
  rintro e w4 ⟨rfl, hg4⟩
  dsimp only
  refine hK.out _ _ (keep3 hH hg4) (fun hH => ?_)
  clear hK K
  obtain ⟨hr1, hr2, hth, hgw⟩ := hH
  refine step1 6 (by kernel_rfl) rfl (fun K hK => ?_)
  refine store32 (z % p) (w.heap.size + 1 + 1) rfl (by rfl) rfl rfl hth ?_
  simp only [Act.put]
  refine hK.out _ _ ⟨World.rangeAt_setCells_apart hr1 _ _ _ (by left; omega), World.rangeAt_setCells_apart hr2 _ _ _ (by left; omega), World.there_setCells hth _ _ _, grown_setCells (by omega) _ _ hgw⟩ (fun _ => ?_)
  clear hK K
  refine wpAnyH_done (by kernel_rfl) ?_ _
  refine NoPanic.normal ?_
  repeat go_step
  rw [hzp]
  refine bodyPost_ret (v := bv (x * y % p)) (result32 Tryd.results11 _ _ (w.heap.size + 1 + 1) _ ?hp (World.rangeAt_setCells_same _ _ _ _ (by rw [bl_length]; exact hth))) ?hd ?_
  case hp => rfl
  case hd => rfl
  exact ⟨rfl, grown_setCells (by omega) _ _ hgw⟩

set_option maxHeartbeats 1000000 in
theorem Add_any (x y : Nat) (hx : x < M) (hy : y < M) (w : World) :
    Calls Tryd.prog 20 #[bv x, bv y] w fun e w' => e = .returned (bv ((x + y) % p)) ∧ Grown w w' := by
  rw [bv, bv]
  go_enter Tryd.func20, Tryd.ntmps20
  go_wp2
  refine wp_region_noPanic ?_
  refine wp_region_held_drew (S := fun w' => w'.rangeAt w.heap.size 0 (bl x) ∧ w'.rangeAt (w.heap.size + 1) 0 (bl y) ∧ w'.there (w.heap.size + 1 + 1) 0 32 ∧ Grown w w') (by kernel_rfl) (start3 w (bl x) (bl y) _ (by simp)) (fun hH => ?_)
  refine take32 0 (x) (w.heap.size) rfl (by kernel_rfl) (by kernel_rfl) (by kernel_rfl) (fun _ _ _ h => h) (by rfl) rfl rfl (fun _ h => h.1) hH ?_
  simp only [Act.put, List.setIfInBounds_toArray, List.set_cons_zero, List.set_cons_succ]
  refine take32 2 (y) (w.heap.size + 1) rfl (by kernel_rfl) (by kernel_rfl) (by kernel_rfl) (fun _ _ _ h => h) (by rfl) rfl rfl (fun _ h => h.2.1) hH ?_
  simp only [Act.put, List.setIfInBounds_toArray, List.set_cons_zero, List.set_cons_succ]
  refine step1 1 (by kernel_rfl) rfl (fun K hK => ?_)
  go_simp
  refine Calls.mono (load_num x _) ?_
  rintro e w1 ⟨rfl, hg1⟩
  dsimp only
  refine hK.out _ _ (keep3 hH hg1) (fun hH => ?_)
  clear hK K
  refine step1 3 (by kernel_rfl) rfl (fun K hK => ?_)
  go_simp
  refine Calls.mono (load_num y _) ?_
  rintro e w2 ⟨rfl, hg2⟩
  dsimp only
  refine hK.out _ _ (keep3 hH hg2) (fun hH => ?_)
  clear hK K
  refine step1 4 (by kernel_rfl) rfl (fun K hK => ?_)
  go_simp
  refine Calls.mono (plus_num x y hx hy _) ?_
  rintro e w3 ⟨⟨z, rfl, hz, hzp⟩, hg3⟩
  dsimp only
  refine hK.out _ _ (keep3 hH hg3) (fun hH => ?_)
  clear hK K
  refine step1 5 (by kernel_rfl) rfl (fun K hK => ?_)
  go_simp
  refine Calls.mono (bytes_num z hz _) ?_
  rintro e w4 ⟨rfl, hg4⟩
  dsimp only
  refine hK.out _ _ (keep3 hH hg4) (fun hH => ?_)
  clear hK K
  obtain ⟨hr1, hr2, hth, hgw⟩ := hH
  refine step1 6 (by kernel_rfl) rfl (fun K hK => ?_)
  refine store32 (z % p) (w.heap.size + 1 + 1) rfl (by rfl) rfl rfl hth ?_
  simp only [Act.put]
  refine hK.out _ _ ⟨World.rangeAt_setCells_apart hr1 _ _ _ (by left; omega), World.rangeAt_setCells_apart hr2 _ _ _ (by left; omega), World.there_setCells hth _ _ _, grown_setCells (by omega) _ _ hgw⟩ (fun _ => ?_)
  clear hK K
  refine wpAnyH_done (by kernel_rfl) ?_ _
  refine NoPanic.normal ?_
  repeat go_step
  rw [hzp]
  refine bodyPost_ret (v := bv ((x + y) % p)) (result32 Tryd.results20 _ _ (w.heap.size + 1 + 1) _ ?hp (World.rangeAt_setCells_same _ _ _ _ (by rw [bl_length]; exact hth))) ?hd ?_
  case hp => rfl
  case hd => rfl
  exact ⟨rfl, grown_setCells (by omega) _ _ hgw⟩

end Go.Proofs.YtfnbodpbdfeiiaaDoor
