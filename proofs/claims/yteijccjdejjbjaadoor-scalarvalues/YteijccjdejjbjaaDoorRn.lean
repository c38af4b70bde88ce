import Derived.Test.YteijccjdejjbjaaDoorRa
namespace Go.Proofs.YteijccjdejjbjaaDoor
open Go.RowKit Go.Shelf ScalarNum

theorem neg_mul (x : Nat) : x * (L - 1) % L = sneg x := by
  unfold sneg
  have h := modL_lt x
  have h1 : (x * (L - 1) + x) % L = 0 := by
    rw [show x * (L - 1) + x = x * L from by rw [← Nat.mul_succ]; congr 1, Nat.mul_mod_left]
  have h2 : (x * (L - 1) % L + x % L) % L = 0 := by rw [← Nat.add_mod]; exact h1
  have h3 := modL_lt (x * (L - 1))
  generalize x * (L - 1) % L = y at *
  generalize x % L = z at *
  have h4 : y + z < L + L := by omega
  by_cases h5 : y + z < L
  · rw [Nat.mod_eq_of_lt h5] at h2
    have : z = 0 := by omega
    rw [this, Nat.sub_zero, Nat.mod_self]; omega
  · rw [Nat.mod_eq_sub_mod (by omega), Nat.mod_eq_of_lt (by omega)] at h2
    have e : L - z = y := by omega
    rw [e, Nat.mod_eq_of_lt h3]
theorem order_less : st 256 L 0 236 = L - 1 := by decide
theorem L1_lt : L - 1 < M := by decide

set_option maxRecDepth 100000 in
set_option maxHeartbeats 1000000 in
theorem refNeg_num (x : Nat) (hx : x < M) (w : World) (hO : w.rangeAt 1 0 (yl 32 L)) : Calls Tryd.prog 31 #[yv 32 x] w fun e w' => e = .returned (yv 32 (sneg x)) ∧ Grown w w' := by
  have h0 := alloc2 w 23 23 (yl 32 x) (yl 32 0).toArray
  rw [show (yl 32 0).toArray.size = 32 from rfl] at h0
  have hsz : ((w.alloc (.cells (yl 32 x).toArray 23)).alloc (.cells (yl 32 0).toArray 23)).heap.size = w.heap.size + 1 + 1 := by simp
  have HO := Hid.of hO
  clear hO
  rw [yv]
  go_enter Tryd.func31, Tryd.ntmps31
  go_wp2_with (with_reducible show wpList _ _ _ ({ dst := _, op := Op.load 23 _, type := _, pos := _, after := _, guard := _ } :: _) _ _; refine Shut.out ?_)
  show wpList _ _ _ _ _ _
  rw [← yl32_zero]
  generalize ((w.alloc (.cells (yl 32 x).toArray 23)).alloc (.cells (yl 32 0).toArray 23)) = W0 at *
  have H0 := Hid.of h0
  clear h0
  refine wpList_load32 rfl _ rfl 1 rfl L (rangeAt_grown HO.out H0.out.2.2.2) ?_
  simp only [Act.put, List.setIfInBounds_toArray, List.set_cons_zero, List.set_cons_succ]
  go_wp2_with (with_reducible show wpList _ _ _ ({ dst := _, op := Op.store 23 _ _, type := _, pos := _, after := _, guard := _ } :: _) _ _; refine Shut.out ?_)
  show wpList _ _ _ _ _ _
  refine wpList_store_new L (by simp) rfl rfl (by rw [hsz]; rfl) rfl (fun w2 hg2 hr2 ht2 => ?_)
  simp only [Act.put]
  apply wpList_nil
  rw [hsz] at hr2 ht2
  have d1 : w2.cell? ⟨w.heap.size + 1 + 1, 0, none⟩ = some (.int .u8 237) := hr2 0 _ (yl_get 32 L 0 (by decide))
  have d2 : w2.frozen? ⟨w.heap.size + 1 + 1, 0, none⟩ = false := (ht2 0 (by decide)).2
  have H1 := Hid.of (show (w2.setCell ⟨w.heap.size + 1 + 1, 0, none⟩ (.int .u8 236)).rangeAt w.heap.size 0 (yl 32 x) ∧ (w2.setCell ⟨w.heap.size + 1 + 1, 0, none⟩ (.int .u8 236)).rangeAt (w.heap.size + 1 + 1) 0 (yl 32 (L - 1)) ∧ (w2.setCell ⟨w.heap.size + 1 + 1, 0, none⟩ (.int .u8 236)).there (w.heap.size + 1) 0 32 ∧ Grown w (w2.setCell ⟨w.heap.size + 1 + 1, 0, none⟩ (.int .u8 236)) from by
    refine ⟨range_put (rangeAt_grown H0.out.1 hg2) _ _ (by omega) _, ?_, there_setCell (there_grown H0.out.2.2.1 hg2) _ _, Grown.setCell (grown_trans H0.out.2.2.2 hg2) (by show _ ≤ w.heap.size + 1 + 1; omega) _⟩
    rw [← order_less]
    exact yrange_set (z := 236) hr2 (by decide) (by decide))
  clear H0 hg2 hr2 ht2
  go_wp2
  generalize (w2.setCell ⟨w.heap.size + 1 + 1, 0, none⟩ (.int .u8 236)) = W3 at *
  refine wp_region_noPanic ?_
  refine wp_region_held_drew (S := fun w' => w'.rangeAt w.heap.size 0 (yl 32 x) ∧ w'.rangeAt (w.heap.size + 1 + 1) 0 (yl 32 (L - 1)) ∧ w'.there (w.heap.size + 1) 0 32 ∧ Grown w w') (by kernel_rfl) H1.out (fun hH => ?_)
  clear H1
  refine take32 0 (x) (w.heap.size) rfl (by kernel_rfl) (by kernel_rfl) (by kernel_rfl) (fun _ _ _ h => h) (by rfl) rfl rfl (fun _ h => h.1) hH ?_
  simp only [Act.put, List.setIfInBounds_toArray, List.set_cons_zero, List.set_cons_succ]
  refine take32 2 (L - 1) (w.heap.size + 1 + 1) rfl (by kernel_rfl) (by kernel_rfl) (by kernel_rfl) (fun _ _ _ h => h) (by rfl) rfl rfl (fun _ h => h.2.1) hH ?_
  simp only [Act.put, List.setIfInBounds_toArray, List.set_cons_zero, List.set_cons_succ]
  refine step1 1 (by kernel_rfl) rfl (fun K hK => ?_)
  go_simp
  refine Calls.mono (list_num x _) ?_
  rintro e w1 ⟨⟨v1, rfl, hs1⟩, hg1⟩
  dsimp only
  refine hK.out _ _ (keep3b hH hg1) (fun hH => ?_)
  clear hK K
  refine step1 3 (by kernel_rfl) rfl (fun K hK => ?_)
  go_simp
  refine Calls.mono (list_num (L - 1) _) ?_
  rintro e w2 ⟨⟨v2, rfl, hs2⟩, hg2⟩
  dsimp only
  refine hK.out _ _ (keep3b hH hg2) (fun hH => ?_)
  clear hK K
  obtain ⟨g1, c1, rfl, r1⟩ := hs1.grown hg2
  obtain ⟨g2, c2, rfl, r2⟩ := hs2
  clear hs1
  refine step1 4 (by kernel_rfl) rfl (fun K hK => ?_)
  go_simp
  refine Calls.mono (product_num g1 c1 x g2 c2 (L - 1) hx L1_lt _ r1 r2) ?_
  rintro e w3 ⟨⟨v3, rfl, hs3⟩, hg3⟩
  dsimp only
  refine hK.out _ _ (keep3b hH hg3) (fun hH => ?_)
  clear hK K
  obtain ⟨g3, c3, rfl, r3⟩ := hs3
  refine step1 5 (by kernel_rfl) rfl (fun K hK => ?_)
  go_simp
  refine Calls.mono (rest_num g3 64 (x * (L - 1)) c3 (by decide) (mul_lt64 hx L1_lt) _ r3 (rangeAt_grown HO.out hH.2.2.2)) ?_
  rintro e w4 ⟨rfl, hg4⟩
  dsimp only
  refine hK.out _ _ (keep3b hH hg4) (fun hH => ?_)
  clear hK K
  obtain ⟨hr1, hr2, hth, hgw⟩ := hH
  rw [neg_mul x]
  refine step1 6 (by kernel_rfl) rfl (fun K hK => ?_)
  refine store32 (sneg x) (w.heap.size + 1) rfl (by rfl) rfl rfl hth ?_
  simp only [Act.put]
  refine hK.out _ _ ⟨World.rangeAt_setCells_apart hr1 _ _ _ (by left; omega), World.rangeAt_setCells_apart hr2 _ _ _ (by left; omega), World.there_setCells hth _ _ _, grown_setCells (by omega) _ _ hgw⟩ (fun _ => ?_)
  clear hK K
  refine wpAnyH_done (by kernel_rfl) ?_ _
  refine NoPanic.normal ?_
  repeat go_step
  refine bodyPost_ret (v := yv 32 (sneg x)) (result32 Tryd.results31 _ _ (w.heap.size + 1) _ ?hp (World.rangeAt_setCells_same _ _ _ _ (by rw [yl_length]; exact hth))) ?hd ?_
  case hp => rfl
  case hd => rfl
  exact ⟨rfl, grown_setCells (by omega) _ _ hgw⟩
end Go.Proofs.YteijccjdejjbjaaDoor
