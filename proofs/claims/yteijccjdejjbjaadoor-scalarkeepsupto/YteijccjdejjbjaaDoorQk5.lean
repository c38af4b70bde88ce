import Derived.Test.YteijccjdejjbjaaDoorQk4
import Derived.Deep.DeepCutAuto
namespace Go.Proofs.YteijccjdejjbjaaDoor
open Go.RowKit Go.Shelf ScalarNum

theorem keep3b {W w1 w2 : World} {b1 b2 b3 : Nat} {xs ys : List Value} (h : w1.rangeAt b1 0 xs ∧ w1.rangeAt b2 0 ys ∧ w1.there b3 0 32 ∧ Grown W w1) (hg : Grown w1 w2) :
    w2.rangeAt b1 0 xs ∧ w2.rangeAt b2 0 ys ∧ w2.there b3 0 32 ∧ Grown W w2 :=
  ⟨rangeAt_grown h.1 hg, rangeAt_grown h.2.1 hg, there_grown h.2.2.1 hg, grown_trans h.2.2.2 hg⟩
theorem M_pow : M = 256 ^ 32 := by decide
theorem sum_lt {x y : Nat} (hx : x < M) (hy : y < M) : x + y < 256 ^ 33 := by
  have : M + M ≤ 256 ^ 33 := by decide
  omega

set_option maxRecDepth 100000 in
set_option maxHeartbeats 1000000 in
theorem refAdd_num (x y : Nat) (hx : x < M) (hy : y < M) (w : World) (hO : w.rangeAt 1 0 (yl 32 L)) : Calls Tryd.prog 30 #[yv 32 x, yv 32 y] w fun e w' => e = .returned (yv 32 (sadd x y)) ∧ Grown w w' := by
  have h0 := alloc3b w 23 (yl 32 x) (yl 32 y) (yl 32 0).toArray
  rw [show (yl 32 0).toArray.size = 32 from rfl] at h0
  have HO := Hid.of hO
  clear hO
  rw [yv, yv]
  go_enter Tryd.func30, Tryd.ntmps30
  go_wp2
  rw [← yl32_zero]
  generalize (((w.alloc (.cells (yl 32 x).toArray 23)).alloc (.cells (yl 32 y).toArray 23)).alloc (.cells (yl 32 0).toArray 23)) = W0 at *
  refine wp_region_noPanic ?_
  refine wp_region_held_drew (S := fun w' => w'.rangeAt w.heap.size 0 (yl 32 x) ∧ w'.rangeAt (w.heap.size + 1) 0 (yl 32 y) ∧ w'.there (w.heap.size + 1 + 1) 0 32 ∧ Grown w w') (by kernel_rfl) h0 (fun hH => ?_)
  clear h0
  refine take32 0 (x) (w.heap.size) rfl (by kernel_rfl) (by kernel_rfl) (by kernel_rfl) (fun _ _ _ h => h) (by rfl) rfl rfl (fun _ h => h.1) hH ?_
  simp only [Act.put, List.setIfInBounds_toArray, List.set_cons_zero, List.set_cons_succ]
  refine take32 2 (y) (w.heap.size + 1) rfl (by kernel_rfl) (by kernel_rfl) (by kernel_rfl) (fun _ _ _ h => h) (by rfl) rfl rfl (fun _ h => h.2.1) hH ?_
  simp only [Act.put, List.setIfInBounds_toArray, List.set_cons_zero, List.set_cons_succ]
  refine step1 1 (by kernel_rfl) rfl (fun K hK => ?_)
  go_simp
  refine Calls.mono (list_num x _) ?_
  rintro e w1 ⟨⟨v1, rfl, hs1⟩, hg1⟩
  dsimp only
  refine hK.out _ _ (keep3b hH hg1) (fun hH => ?_)
  clear hK K
  refine step1 3 (by kernel_rfl) rfl (fun K hK => ?_)
  go_simp
  refine Calls.mono (list_num y _) ?_
  rintro e w2 ⟨⟨v2, rfl, hs2⟩, hg2⟩
  dsimp only
  refine hK.out _ _ (keep3b hH hg2) (fun hH => ?_)
  clear hK K
  obtain ⟨g1, c1, rfl, r1⟩ := hs1.grown hg2
  obtain ⟨g2, c2, rfl, r2⟩ := hs2
  clear hs1
  refine step1 4 (by kernel_rfl) rfl (fun K hK => ?_)
  go_simp
  refine Calls.mono (added_num g1 32 c1 x g2 32 c2 y (by decide) (by decide) (by rw [← M_pow]; exact hx) (by rw [← M_pow]; exact hy) _ r1 r2) ?_
  rintro e w3 ⟨⟨v3, rfl, hs3⟩, hg3⟩
  dsimp only
  refine hK.out _ _ (keep3b hH hg3) (fun hH => ?_)
  clear hK K
  obtain ⟨g3, c3, rfl, r3⟩ := hs3
  refine step1 5 (by kernel_rfl) rfl (fun K hK => ?_)
  go_simp
  refine Calls.mono (rest_num g3 33 (x + y) c3 (by decide) (sum_lt hx hy) _ r3 (rangeAt_grown HO.out hH.2.2.2)) ?_
  rintro e w4 ⟨rfl, hg4⟩
  dsimp only
  refine hK.out _ _ (keep3b hH hg4) (fun hH => ?_)
  clear hK K
  obtain ⟨hr1, hr2, hth, hgw⟩ := hH
  rw [show (x + y) % L = sadd x y from rfl]
  refine step1 6 (by kernel_rfl) rfl (fun K hK => ?_)
  refine store32 (sadd x y) (w.heap.size + 1 + 1) rfl (by rfl) rfl rfl hth ?_
  simp only [Act.put]
  refine hK.out _ _ ⟨World.rangeAt_setCells_apart hr1 _ _ _ (by left; omega), World.rangeAt_setCells_apart hr2 _ _ _ (by left; omega), World.there_setCells hth _ _ _, grown_setCells (by omega) _ _ hgw⟩ (fun _ => ?_)
  clear hK K
  refine wpAnyH_done (by kernel_rfl) ?_ _
  refine NoPanic.normal ?_
  repeat go_step
  refine bodyPost_ret (v := yv 32 (sadd x y)) (result32 Tryd.results30 _ _ (w.heap.size + 1 + 1) _ ?hp (World.rangeAt_setCells_same _ _ _ _ (by rw [yl_length]; exact hth))) ?hd ?_
  case hp => rfl
  case hd => rfl
  exact ⟨rfl, grown_setCells (by omega) _ _ hgw⟩

theorem pl_lt {x y z : Nat} (hx : x < M) (hy : y < M) (hz : z < M) : x * y + z < 256 ^ 65 := Nat.lt_trans (timesM hx hy hz) (by decide)
theorem mul_lt64 {x y : Nat} (hx : x < M) (hy : y < M) : x * y < 256 ^ 64 := by
  rw [show (256 : Nat) ^ 64 = M * M from by decide]; exact Nat.mul_lt_mul'' hx hy

set_option maxRecDepth 100000 in
set_option maxHeartbeats 1000000 in
theorem refMulAdd_num (x y z : Nat) (hx : x < M) (hy : y < M) (hz : z < M) (w : World) (hO : w.rangeAt 1 0 (yl 32 L)) : Calls Tryd.prog 29 #[yv 32 x, yv 32 y, yv 32 z] w fun e w' => e = .returned (yv 32 (smad x y z)) ∧ Grown w w' := by
  have h0 := alloc4b w 23 (yl 32 x) (yl 32 y) (yl 32 z) (yl 32 0).toArray
  rw [show (yl 32 0).toArray.size = 32 from rfl] at h0
  have HO := Hid.of hO
  clear hO
  rw [yv, yv, yv]
  go_enter Tryd.func29, Tryd.ntmps29
  go_wp2
  rw [← yl32_zero]
  generalize ((((w.alloc (.cells (yl 32 x).toArray 23)).alloc (.cells (yl 32 y).toArray 23)).alloc (.cells (yl 32 z).toArray 23)).alloc (.cells (yl 32 0).toArray 23)) = W0 at *
  refine wp_region_noPanic ?_
  refine wp_region_held_drew (S := fun w' => w'.rangeAt w.heap.size 0 (yl 32 x) ∧ w'.rangeAt (w.heap.size + 1) 0 (yl 32 y) ∧ w'.rangeAt (w.heap.size + 1 + 1) 0 (yl 32 z) ∧ w'.there (w.heap.size + 1 + 1 + 1) 0 32 ∧ Grown w w') (by kernel_rfl) h0 (fun hH => ?_)
  clear h0
  refine take32 0 (x) (w.heap.size) rfl (by kernel_rfl) (by kernel_rfl) (by kernel_rfl) (fun _ _ _ h => h) (by rfl) rfl rfl (fun _ h => h.1) hH ?_
  simp only [Act.put, List.setIfInBounds_toArray, List.set_cons_zero, List.set_cons_succ]
  refine take32 2 (y) (w.heap.size + 1) rfl (by kernel_rfl) (by kernel_rfl) (by kernel_rfl) (fun _ _ _ h => h) (by rfl) rfl rfl (fun _ h => h.2.1) hH ?_
  simp only [Act.put, List.setIfInBounds_toArray, List.set_cons_zero, List.set_cons_succ]
  refine step1 1 (by kernel_rfl) rfl (fun K hK => ?_)
  go_simp
  refine Calls.mono (list_num x _) ?_
  rintro e w1 ⟨⟨v1, rfl, hs1⟩, hg1⟩
  dsimp only
  refine hK.out _ _ (keep4 hH hg1) (fun hH => ?_)
  clear hK K
  refine step1 3 (by kernel_rfl) rfl (fun K hK => ?_)
  go_simp
  refine Calls.mono (list_num y _) ?_
  rintro e w2 ⟨⟨v2, rfl, hs2⟩, hg2⟩
  dsimp only
  refine hK.out _ _ (keep4 hH hg2) (fun hH => ?_)
  clear hK K
  obtain ⟨g1, c1, rfl, r1⟩ := hs1.grown hg2
  obtain ⟨g2, c2, rfl, r2⟩ := hs2
  clear hs1
  refine step1 4 (by kernel_rfl) rfl (fun K hK => ?_)
  go_simp
  refine Calls.mono (product_num g1 c1 x g2 c2 y hx hy _ r1 r2) ?_
  rintro e w3 ⟨⟨v3, rfl, hs3⟩, hg3⟩
  dsimp only
  refine hK.out _ _ (keep4 hH hg3) (fun hH => ?_)
  clear hK K
  refine takeV 5 v3 rfl (by kernel_rfl) (by kernel_rfl) (by kernel_rfl) (fun _ _ _ h => h) (by rfl) (fun w _ => rfl) hH ?_
  simp only [Act.put, List.setIfInBounds_toArray, List.set_cons_zero, List.set_cons_succ]
  refine wpAnyH_done (by kernel_rfl) ?_ _
  refine NoPanic.normal ?_
  have H9 := Hid.of hH
  have HS3 := Hid.of hs3
  clear hH hs3 hg1 hg2 hg3 r1 r2
  go_wp2_with (with_reducible show wpList _ _ _ ({ dst := _, op := Op.load 23 _, type := _, pos := _, after := _, guard := _ } :: _) _ _; refine Shut.out ?_)
  show wpList _ _ _ _ _ _
  refine wpList_load32 rfl _ rfl (w.heap.size + 1 + 1) rfl z H9.out.2.2.1 ?_
  simp only [Act.put, List.setIfInBounds_toArray, List.set_cons_zero, List.set_cons_succ]
  go_wp2_with fail
  refine Calls.mono (list_num z _) ?_
  rintro e w4 ⟨⟨v4, rfl, hs4⟩, hg4⟩
  dsimp only
  obtain ⟨g3, c3, rfl, r3⟩ := HS3.out.grown hg4
  obtain ⟨g4, c4, rfl, r4⟩ := hs4
  go_wp2_with fail
  refine Calls.mono (added_num g3 64 c3 (x * y) g4 32 c4 z (by decide) (by decide) (mul_lt64 hx hy) (by rw [← M_pow]; exact hz) _ r3 r4) ?_
  rintro e w5 ⟨⟨v5, rfl, hs5⟩, hg5⟩
  dsimp only
  obtain ⟨g5, c5, rfl, r5⟩ := hs5
  go_wp2_with fail
  refine Calls.mono (rest_num g5 65 (x * y + z) c5 (by decide) (pl_lt hx hy hz) _ r5 (rangeAt_grown HO.out (grown_trans H9.out.2.2.2.2 (grown_trans hg4 hg5)))) ?_
  rintro e w6 ⟨rfl, hg6⟩
  dsimp only
  rw [show (x * y + z) % L = smad x y z from rfl]
  have gg := grown_trans hg4 (grown_trans hg5 hg6)
  have H8 := Hid.of (And.intro (there_grown H9.out.2.2.2.1 gg) (grown_trans H9.out.2.2.2.2 gg))
  clear H9 HS3 hg4 hg5 hg6 gg r3 r4 r5
  go_wp2_with (with_reducible show wpList _ _ _ ({ dst := _, op := Op.store 23 _ _, type := _, pos := _, after := _, guard := _ } :: _) _ _; refine Shut.out ?_)
  show wpList _ _ _ _ _ _
  refine wpList_store32 rfl _ _ rfl (w.heap.size + 1 + 1 + 1) (smad x y z) rfl rfl (H8.out.1) ?_
  simp only [Act.put]
  apply wpList_nil
  repeat go_step
  refine bodyPost_ret (v := yv 32 (smad x y z)) (result32 Tryd.results29 _ _ (w.heap.size + 1 + 1 + 1) _ ?hp (World.rangeAt_setCells_same _ _ _ _ (by rw [yl_length]; exact H8.out.1))) ?hd ?_
  case hp => rfl
  case hd => rfl
  exact ⟨rfl, grown_setCells (by omega) _ _ (H8.out.2)⟩
end Go.Proofs.YteijccjdejjbjaaDoor
namespace Go.Proofs.YteijccjdejjbjaaDoor
open Go.RowKit Go.Shelf ScalarNum

theorem neg_mul (x : Nat) : x * (L - 1) % L = sneg x := by
  unfold sneg
  have h := modL_lt x
  have h1 : (x * (L - 1) + x) % L = 0 := by
    rw [show x * (L - 1) + x = x * L from by rw [← Nat.mul_succ]; congr 1, Nat.mul_mod_left]
  have h2 : (x * (L - 1) % L + x % L) % L = 0 := by rw [← Nat.add_mod]; exact h1
  have h3 := modL_lt (x * (L - 1))
  generalize x * (L - 1) % L = y at *
  generalize x % L = z at *
  have h4 : y + z < L + L := by omega
  by_cases h5 : y + z < L
  · rw [Nat.mod_eq_of_lt h5] at h2
    have : z = 0 := by omega
    rw [this, Nat.sub_zero, Nat.mod_self]; omega
  · rw [Nat.mod_eq_sub_mod (by omega), Nat.mod_eq_of_lt (by omega)] at h2
    have e : L - z = y := by omega
    rw [e, Nat.mod_eq_of_lt h3]
theorem order_less : st 256 L 0 236 = L - 1 := by decide
theorem L1_lt : L - 1 < M := by decide

set_option maxRecDepth 100000 in
set_option maxHeartbeats 1000000 in
theorem refNeg_num (x : Nat) (hx : x < M) (w : World) (hO : w.rangeAt 1 0 (yl 32 L)) : Calls Tryd.prog 31 #[yv 32 x] w fun e w' => e = .returned (yv 32 (sneg x)) ∧ Grown w w' := by
  have h0 := alloc2 w 23 23 (yl 32 x) (yl 32 0).toArray
  rw [show (yl 32 0).toArray.size = 32 from rfl] at h0
  have hsz : ((w.alloc (.cells (yl 32 x).toArray 23)).alloc (.cells (yl 32 0).toArray 23)).heap.size = w.heap.size + 1 + 1 := by simp
  have HO := Hid.of hO
  clear hO
  rw [yv]
  go_enter Tryd.func31, Tryd.ntmps31
  go_wp2_with (with_reducible show wpList _ _ _ ({ dst := _, op := Op.load 23 _, type := _, pos := _, after := _, guard := _ } :: _) _ _; refine Shut.out ?_)
  show wpList _ _ _ _ _ _
  rw [← yl32_zero]
  generalize ((w.alloc (.cells (yl 32 x).toArray 23)).alloc (.cells (yl 32 0).toArray 23)) = W0 at *
  have H0 := Hid.of h0
  clear h0
  refine wpList_load32 rfl _ rfl 1 rfl L (rangeAt_grown HO.out H0.out.2.2.2) ?_
  simp only [Act.put, List.setIfInBounds_toArray, List.set_cons_zero, List.set_cons_succ]
  go_wp2_with (with_reducible show wpList _ _ _ ({ dst := _, op := Op.store 23 _ _, type := _, pos := _, after := _, guard := _ } :: _) _ _; refine Shut.out ?_)
  show wpList _ _ _ _ _ _
  refine wpList_store_new L (by simp) rfl rfl (by rw [hsz]; rfl) rfl (fun w2 hg2 hr2 ht2 => ?_)
  simp only [Act.put]
  apply wpList_nil
  rw [hsz] at hr2 ht2
  have d1 : w2.cell? ⟨w.heap.size + 1 + 1, 0, none⟩ = some (.int .u8 237) := hr2 0 _ (yl_get 32 L 0 (by decide))
  have d2 : w2.frozen? ⟨w.heap.size + 1 + 1, 0, none⟩ = false := (ht2 0 (by decide)).2
  have H1 := Hid.of (show (w2.setCell ⟨w.heap.size + 1 + 1, 0, none⟩ (.int .u8 236)).rangeAt w.heap.size 0 (yl 32 x) ∧ (w2.setCell ⟨w.heap.size + 1 + 1, 0, none⟩ (.int .u8 236)).rangeAt (w.heap.size + 1 + 1) 0 (yl 32 (L - 1)) ∧ (w2.setCell ⟨w.heap.size + 1 + 1, 0, none⟩ (.int .u8 236)).there (w.heap.size + 1) 0 32 ∧ Grown w (w2.setCell ⟨w.heap.size + 1 + 1, 0, none⟩ (.int .u8 236)) from by
    refine ⟨range_put (rangeAt_grown H0.out.1 hg2) _ _ (by omega) _, ?_, there_setCell (there_grown H0.out.2.2.1 hg2) _ _, Grown.setCell (grown_trans H0.out.2.2.2 hg2) (by show _ ≤ w.heap.size + 1 + 1; omega) _⟩
    rw [← order_less]
    exact yrange_set (z := 236) hr2 (by decide) (by decide))
  clear H0 hg2 hr2 ht2
  go_wp2
  generalize (w2.setCell ⟨w.heap.size + 1 + 1, 0, none⟩ (.int .u8 236)) = W3 at *
  refine wp_region_noPanic ?_
  refine wp_region_held_drew (S := fun w' => w'.rangeAt w.heap.size 0 (yl 32 x) ∧ w'.rangeAt (w.heap.size + 1 + 1) 0 (yl 32 (L - 1)) ∧ w'.there (w.heap.size + 1) 0 32 ∧ Grown w w') (by kernel_rfl) H1.out (fun hH => ?_)
  clear H1
  refine take32 0 (x) (w.heap.size) rfl (by kernel_rfl) (by kernel_rfl) (by kernel_rfl) (fun _ _ _ h => h) (by rfl) rfl rfl (fun _ h => h.1) hH ?_
  simp only [Act.put, List.setIfInBounds_toArray, List.set_cons_zero, List.set_cons_succ]
  refine take32 2 (L - 1) (w.heap.size + 1 + 1) rfl (by kernel_rfl) (by kernel_rfl) (by kernel_rfl) (fun _ _ _ h => h) (by rfl) rfl rfl (fun _ h => h.2.1) hH ?_
  simp only [Act.put, List.setIfInBounds_toArray, List.set_cons_zero, List.set_cons_succ]
  refine step1 1 (by kernel_rfl) rfl (fun K hK => ?_)
  go_simp
  refine Calls.mono (list_num x _) ?_
  rintro e w1 ⟨⟨v1, rfl, hs1⟩, hg1⟩
  dsimp only
  refine hK.out _ _ (keep3b hH hg1) (fun hH => ?_)
  clear hK K
  refine step1 3 (by kernel_rfl) rfl (fun K hK => ?_)
  go_simp
  refine Calls.mono (list_num (L - 1) _) ?_
  rintro e w2 ⟨⟨v2, rfl, hs2⟩, hg2⟩
  dsimp only
  refine hK.out _ _ (keep3b hH hg2) (fun hH => ?_)
  clear hK K
  obtain ⟨g1, c1, rfl, r1⟩ := hs1.grown hg2
  obtain ⟨g2, c2, rfl, r2⟩ := hs2
  clear hs1
  refine step1 4 (by kernel_rfl) rfl (fun K hK => ?_)
  go_simp
  refine Calls.mono (product_num g1 c1 x g2 c2 (L - 1) hx L1_lt _ r1 r2) ?_
  rintro e w3 ⟨⟨v3, rfl, hs3⟩, hg3⟩
  dsimp only
  refine hK.out _ _ (keep3b hH hg3) (fun hH => ?_)
  clear hK K
  obtain ⟨g3, c3, rfl, r3⟩ := hs3
  refine step1 5 (by kernel_rfl) rfl (fun K hK => ?_)
  go_simp
  refine Calls.mono (rest_num g3 64 (x * (L - 1)) c3 (by decide) (mul_lt64 hx L1_lt) _ r3 (rangeAt_grown HO.out hH.2.2.2)) ?_
  rintro e w4 ⟨rfl, hg4⟩
  dsimp only
  refine hK.out _ _ (keep3b hH hg4) (fun hH => ?_)
  clear hK K
  obtain ⟨hr1, hr2, hth, hgw⟩ := hH
  rw [neg_mul x]
  refine step1 6 (by kernel_rfl) rfl (fun K hK => ?_)
  refine store32 (sneg x) (w.heap.size + 1) rfl (by rfl) rfl rfl hth ?_
  simp only [Act.put]
  refine hK.out _ _ ⟨World.rangeAt_setCells_apart hr1 _ _ _ (by left; omega), World.rangeAt_setCells_apart hr2 _ _ _ (by left; omega), World.there_setCells hth _ _ _, grown_setCells (by omega) _ _ hgw⟩ (fun _ => ?_)
  clear hK K
  refine wpAnyH_done (by kernel_rfl) ?_ _
  refine NoPanic.normal ?_
  repeat go_step
  refine bodyPost_ret (v := yv 32 (sneg x)) (result32 Tryd.results31 _ _ (w.heap.size + 1) _ ?hp (World.rangeAt_setCells_same _ _ _ _ (by rw [yl_length]; exact hth))) ?hd ?_
  case hp => rfl
  case hd => rfl
  exact ⟨rfl, grown_setCells (by omega) _ _ hgw⟩
end Go.Proofs.YteijccjdejjbjaaDoor
namespace Go.Proofs.YteijccjdejjbjaaDoor
open Go.RowKit Go.Shelf ScalarNum

theorem and248 : ∀ d : Nat, d < 256 → bits .and .u8 (d : Int) 248 = ((d / 8 * 8 : Nat) : Int) := by decide +kernel
theorem and63 : ∀ d : Nat, d < 256 → bits .and .u8 (d : Int) 63 = ((d % 64 : Nat) : Int) := by decide +kernel
theorem or64 : ∀ d : Nat, d < 64 → bits .or .u8 (d : Int) 64 = ((d + 64 : Nat) : Int) := by decide +kernel

/-- what Clamp answers -/
def cl (x : Nat) : Nat := st 256 (st 256 x 0 (dg 256 x 0 / 8 * 8)) 31 (dg 256 x 31 % 64 + 64)
theorem cl_lt {x : Nat} (hx : x < M) : cl x < M := by
  have e : M = 256 ^ 32 := by decide
  rw [e] at hx ⊢
  have h0 : dg 256 x 0 < 256 := dg_lt (by decide)
  have h1 : dg 256 x 31 % 64 < 64 := Nat.mod_lt _ (by decide)
  exact st_lt (by decide) (by omega) (by decide) (st_lt (by decide) (by omega) (by decide) hx)
theorem cl_0 (x : Nat) : dg 256 (cl x) 0 = dg 256 x 0 / 8 * 8 := by
  have h0 : dg 256 x 0 < 256 := dg_lt (by decide)
  have h1 : dg 256 x 31 % 64 < 64 := Nat.mod_lt _ (by decide)
  unfold cl
  rw [st_other (by decide) (by omega) (by decide), st_same (by decide) (by omega)]
theorem cl_31 (x : Nat) : dg 256 (cl x) 31 = dg 256 x 31 % 64 + 64 := by
  have h1 : dg 256 x 31 % 64 < 64 := Nat.mod_lt _ (by decide)
  unfold cl
  rw [st_same (by decide) (by omega)]
theorem cl_mid (x i : Nat) (h0 : i ≠ 0) (h1 : i ≠ 31) : dg 256 (cl x) i = dg 256 x i := by
  have q0 : dg 256 x 0 < 256 := dg_lt (by decide)
  have q1 : dg 256 x 31 % 64 < 64 := Nat.mod_lt _ (by decide)
  unfold cl
  rw [st_other (by decide) (by omega) h1, st_other (by decide) (by omega) h0]
theorem cl_cl (x : Nat) (hx : x < M) : cl (cl x) = cl x := by
  have e : M = 256 ^ 32 := by decide
  have h : ∀ i, i < 32 → dg 256 (cl (cl x)) i = dg 256 (cl x) i := by
    intro i _
    by_cases h0 : i = 0
    · subst h0; rw [cl_0, cl_0]; omega
    · by_cases h1 : i = 31
      · subst h1; rw [cl_31, cl_31]; omega
      · rw [cl_mid _ _ h0 h1]
  have := ds_inj h
  rw [← e, Nat.mod_eq_of_lt (cl_lt (cl_lt hx)), Nat.mod_eq_of_lt (cl_lt hx)] at this
  exact this

set_option maxRecDepth 100000 in
set_option maxHeartbeats 1000000 in
theorem Clamp_num (x : Nat) (w : World) : Calls Tryd.prog 56 #[yv 32 x] w fun e w' => e = .returned (yv 32 (cl x)) ∧ Grown w w' := by
  have h0 := alloc2 w 23 23 (yl 32 x) (yl 32 0).toArray
  rw [show (yl 32 0).toArray.size = 32 from rfl, yl_length] at h0
  rw [yv]
  go_enter Tryd.func56, Tryd.ntmps56
  go_upto_region 1 with (fail)
  rw [← yl32_zero]
  generalize ((w.alloc (.cells (yl 32 x).toArray 23)).alloc (.cells (yl 32 0).toArray 23)) = W0 at *
  obtain ⟨r0, t0, t1, g0⟩ := h0
  have d0 : W0.cell? ⟨w.heap.size, 0, none⟩ = some (.int .u8 (dg 256 x 0 : Nat)) := r0 0 _ (yl_get 32 x 0 (by decide))
  have d1 : W0.cell? ⟨w.heap.size, 31, none⟩ = some (.int .u8 (dg 256 x 31 : Nat)) := r0 31 _ (yl_get 32 x 31 (by decide))
  have f0 : W0.frozen? ⟨w.heap.size, 0, none⟩ = false := (t0 0 (by decide)).2
  have f1 : W0.frozen? ⟨w.heap.size, 31, none⟩ = false := (t0 31 (by decide)).2
  have q0 : dg 256 x 0 < 256 := dg_lt (by decide)
  have q1 : dg 256 x 31 < 256 := dg_lt (by decide)
  have e0 := and248 _ q0
  have e1 := and63 _ q1
  have e2 := or64 (dg 256 x 31 % 64) (Nat.mod_lt _ (by decide))
  have z0 : dg 256 x 0 / 8 * 8 < 256 := by omega
  have z1 : dg 256 x 31 % 64 + 64 < 256 := by omega
  have hr : ((W0.setCell ⟨w.heap.size, 0, none⟩ (.int .u8 ((dg 256 x 0 / 8 * 8 : Nat) : Int))).setCell ⟨w.heap.size, 31, none⟩ (.int .u8 ((dg 256 x 31 % 64 + 64 : Nat) : Int))).rangeAt w.heap.size 0 (yl 32 (cl x)) := yrange_set (yrange_set r0 z0 (by decide)) z1 (by decide)
  have HR := Hid.of (And.intro hr (And.intro (there_setCell (there_setCell t1 ⟨w.heap.size, 0, none⟩ (.int .u8 ((dg 256 x 0 / 8 * 8 : Nat) : Int))) ⟨w.heap.size, 31, none⟩ (.int .u8 ((dg 256 x 31 % 64 + 64 : Nat) : Int))) (Grown.setCell (Grown.setCell g0 (a := ⟨w.heap.size, 0, none⟩) (Nat.le_refl _) (.int .u8 ((dg 256 x 0 / 8 * 8 : Nat) : Int))) (a := ⟨w.heap.size, 31, none⟩) (Nat.le_refl _) (.int .u8 ((dg 256 x 31 % 64 + 64 : Nat) : Int)))))
  clear hr r0 t0 t1 g0
  generalize dg 256 x 31 % 64 + 64 = y1 at *
  generalize dg 256 x 31 % 64 = y2 at *
  generalize dg 256 x 0 / 8 * 8 = y0 at *
  generalize dg 256 x 0 = x0 at *
  generalize dg 256 x 31 = x1 at *
  clear q0 q1 z0 z1
  go_wp2_with (with_reducible show wpList _ _ _ ({ dst := _, op := Op.load 23 _, type := _, pos := _, after := _, guard := _ } :: _) _ _; refine Shut.out ?_)
  show wpList _ _ _ _ _ _
  generalize ((W0.setCell ⟨w.heap.size, 0, none⟩ (.int .u8 (y0 : Int))).setCell ⟨w.heap.size, 31, none⟩ (.int .u8 (y1 : Int))) = W2 at *
  go_wp2_with (with_reducible show wpList _ _ _ ({ dst := _, op := Op.load 23 _, type := _, pos := _, after := _, guard := _ } :: _) _ _; refine Shut.out ?_)
  show wpList _ _ _ _ _ _
  refine wpList_load32 rfl _ rfl (w.heap.size) rfl (cl x) (HR.out.1) ?_
  simp only [Act.put, List.setIfInBounds_toArray, List.set_cons_zero, List.set_cons_succ]
  refine wpList_store32 rfl _ _ rfl (w.heap.size + 1) (cl x) rfl rfl (HR.out.2.1) ?_
  simp only [Act.put]
  apply wpList_nil
  repeat go_step
  refine bodyPost_ret (v := yv 32 (cl x)) (result32 Tryd.results56 _ _ (w.heap.size + 1) _ ?hp (World.rangeAt_setCells_same _ _ _ _ (by rw [yl_length]; exact HR.out.2.1))) ?hd ?_
  case hp => rfl
  case hd => rfl
  exact ⟨rfl, grown_setCells (by omega) _ _ (HR.out.2.2)⟩
end Go.Proofs.YteijccjdejjbjaaDoor
namespace Go.Proofs.YteijccjdejjbjaaDoor
open Go.RowKit Go.Shelf ScalarNum

set_option maxRecDepth 100000 in
set_option maxHeartbeats 1000000 in
theorem refOrder_num (w : World) (hO : w.rangeAt 1 0 (yl 32 L)) : Calls Tryd.prog 37 #[] w fun e w' => e = .returned (yv 32 L) ∧ Grown w w' := by
  have h0 := alloc1 w 23 (yl 32 0).toArray
  rw [show (yl 32 0).toArray.size = 32 from rfl] at h0
  have HO := Hid.of hO
  clear hO
  go_enter Tryd.func37, Tryd.ntmps37
  go_wp2_with (with_reducible show wpList _ _ _ ({ dst := _, op := Op.load 23 _, type := _, pos := _, after := _, guard := _ } :: _) _ _; refine Shut.out ?_)
  show wpList _ _ _ _ _ _
  rw [← yl32_zero]
  generalize (w.alloc (.cells (yl 32 0).toArray 23)) = W0 at *
  have H0 := Hid.of h0
  clear h0
  refine wpList_load32 rfl _ rfl 1 (by first | rfl | go_simp) L (rangeAt_grown HO.out H0.out.2) ?_
  simp only [Act.put, List.setIfInBounds_toArray, List.set_cons_zero, List.set_cons_succ]
  go_wp2_with (with_reducible show wpList _ _ _ ({ dst := _, op := Op.store 23 _ _, type := _, pos := _, after := _, guard := _ } :: _) _ _; refine Shut.out ?_)
  show wpList _ _ _ _ _ _
  refine wpList_store32 rfl _ _ rfl (w.heap.size) (L) rfl rfl (H0.out.1) ?_
  simp only [Act.put]
  apply wpList_nil
  repeat go_step
  refine bodyPost_ret (v := yv 32 (L)) (result32 Tryd.results37 _ _ (w.heap.size) _ ?hp (World.rangeAt_setCells_same _ _ _ _ (by rw [yl_length]; exact H0.out.1))) ?hd ?_
  case hp => rfl
  case hd => rfl
  exact ⟨rfl, grown_setCells (by omega) _ _ (H0.out.2)⟩

set_option maxRecDepth 100000 in
set_option maxHeartbeats 1000000 in
theorem refCanonical_num (x : Nat) (hx : x < M) (w : World) (hO : w.rangeAt 1 0 (yl 32 L)) : Calls Tryd.prog 54 #[yv 32 x] w fun e w' => e = .returned (.bool (decide (x < L))) ∧ Grown w w' := by
  have h0 : (w.alloc (.cells (yl 32 x).toArray 23)).rangeAt w.heap.size 0 (yl 32 x) ∧ Grown w (w.alloc (.cells (yl 32 x).toArray 23)) := ⟨rangeAt_alloc_new w 23 (yl 32 x), Grown.alloc (Grown.refl _) _ _⟩
  have HO := Hid.of hO
  clear hO
  have ed : decide (x % L = x) = decide (x < L) := by
    apply decide_eq_decide.2
    constructor
    · intro h; rw [← h]; exact modL_lt x
    · intro h; exact Nat.mod_eq_of_lt h
  have HE := Hid.of ed
  clear ed
  rw [yv]
  go_enter Tryd.func54, Tryd.ntmps54
  go_wp2_with (with_reducible show wpList _ _ _ ({ dst := _, op := Op.load 23 _, type := _, pos := _, after := _, guard := _ } :: _) _ _; refine Shut.out ?_)
  show wpList _ _ _ _ _ _
  generalize (w.alloc (.cells (yl 32 x).toArray 23)) = W0 at *
  have H0 := Hid.of h0
  clear h0
  refine wpList_load32 rfl _ rfl w.heap.size rfl x H0.out.1 ?_
  simp only [Act.put, List.setIfInBounds_toArray, List.set_cons_zero, List.set_cons_succ]
  go_wp2_with fail
  refine Calls.mono (list_num x _) ?_
  rintro e w1 ⟨⟨v1, rfl, hs1⟩, g1⟩
  obtain ⟨g1', c1, rfl, r1⟩ := hs1
  dsimp only
  have H1 := Hid.of (And.intro (rangeAt_grown H0.out.1 g1) (And.intro r1 (grown_trans H0.out.2 g1)))
  clear H0 g1 r1
  go_wp2_with fail
  refine Calls.mono (rest_num g1' 32 x c1 (by decide) (by rw [← M_pow]; exact hx) _ H1.out.2.1 (rangeAt_grown HO.out H1.out.2.2)) ?_
  rintro e w2 ⟨rfl, g2⟩
  dsimp only
  have H2 := Hid.of (And.intro (rangeAt_grown H1.out.1 g2) (grown_trans H1.out.2.2 g2))
  clear H1 g2
  go_wp2_with (with_reducible show wpList _ _ _ ({ dst := _, op := Op.store 23 _ _, type := _, pos := _, after := _, guard := _ } :: _) _ _; refine Shut.out ?_)
  show wpList _ _ _ _ _ _
  refine wpList_store_new (x % L) (by simp) rfl rfl rfl rfl (fun w3 hg3 hr3 _ => ?_)
  simp only [Act.put]
  have H3 := Hid.of (And.intro (rangeAt_grown H2.out.1 hg3) (And.intro hr3 (grown_trans H2.out.2 hg3)))
  clear H2 hg3 hr3
  generalize w2.heap.size = b3 at *
  apply wpList_nil
  go_wp2_with (with_reducible show wpList _ _ _ ({ dst := _, op := Op.load 23 _, type := _, pos := _, after := _, guard := _ } :: _) _ _; refine Shut.out ?_)
  show wpList _ _ _ _ _ _
  refine wpList_load32 rfl _ rfl b3 rfl (x % L) H3.out.2.1 ?_
  simp only [Act.put, List.setIfInBounds_toArray, List.set_cons_zero, List.set_cons_succ]
  refine wpList_load32 rfl _ rfl w.heap.size rfl x H3.out.1 ?_
  simp only [Act.put, List.setIfInBounds_toArray, List.set_cons_zero, List.set_cons_succ]
  refine wpList_val (.bool (decide (x % L = x))) rfl (exec_eql32 rfl (x % L) x rfl rfl (modL_ltM x) hx _) ?_
  simp only [Act.put, List.setIfInBounds_toArray, List.set_cons_zero, List.set_cons_succ]
  rw [HE.out]
  go_wp2
  go_ret
  exact ⟨rfl, H3.out.2.2⟩

theorem div8_u8 (q : Nat) (h : q < 256) : IntKind.u8.wrap ((q : Int).tdiv 8) = ((q / 8 : Nat) : Int) ∧ (q : Int).tdiv 8 = ((q / 8 : Nat) : Int) := by
  rw [Int.tdiv_eq_ediv_of_nonneg (by omega), IntKind.wrap_u8]; omega
theorem mod64_u8 (q : Nat) : (q : Int).tmod 64 = ((q % 64 : Nat) : Int) := by rw [Int.tmod_eq_emod_of_nonneg (by omega)]; omega
set_option maxRecDepth 100000 in
set_option maxHeartbeats 1000000 in
theorem refClamp_num (x : Nat) (w : World) : Calls Tryd.prog 57 #[yv 32 x] w fun e w' => e = .returned (yv 32 (cl x)) ∧ Grown w w' := by
  have h0 := alloc2 w 23 23 (yl 32 x) (yl 32 0).toArray
  rw [show (yl 32 0).toArray.size = 32 from rfl] at h0
  rw [yv]
  go_enter Tryd.func57, Tryd.ntmps57
  go_wp2_with (with_reducible show wpList _ _ _ ({ dst := _, op := Op.load 23 _, type := _, pos := _, after := _, guard := _ } :: _) _ _; refine Shut.out ?_)
  show wpList _ _ _ _ _ _
  rw [← yl32_zero]
  generalize ((w.alloc (.cells (yl 32 x).toArray 23)).alloc (.cells (yl 32 0).toArray 23)) = W0 at *
  have H0 := Hid.of h0
  clear h0
  refine wpList_load32 rfl _ rfl w.heap.size rfl x H0.out.1 ?_
  simp only [Act.put, List.setIfInBounds_toArray, List.set_cons_zero, List.set_cons_succ]
  go_wp2_with (with_reducible show wpList _ _ _ ({ dst := _, op := Op.store 23 _ _, type := _, pos := _, after := _, guard := _ } :: _) _ _; refine Shut.out ?_)
  show wpList _ _ _ _ _ _
  refine wpList_store_new x (by simp) rfl rfl rfl rfl (fun W1 hg1 hr1 ht1 => ?_)
  simp only [Act.put]
  have r0 := rangeAt_grown H0.out.1 hg1
  have hb : w.heap.size < W0.heap.size := range_lt H0.out.1 (by rw [yl_length]; decide)
  have H1 := Hid.of (And.intro (there_grown H0.out.2.2.1 hg1) (grown_trans H0.out.2.2.2 hg1))
  have hb1 : W0.heap.size ≠ w.heap.size + 1 := by
    intro e
    have := there_lt H0.out.2.2.1 (by decide)
    omega
  clear H0 hg1
  generalize W0.heap.size = b3 at *
  apply wpList_nil
  have d0 : W1.cell? ⟨w.heap.size, 0, none⟩ = some (.int .u8 (dg 256 x 0 : Nat)) := r0 0 _ (yl_get 32 x 0 (by decide))
  have d1 : W1.cell? ⟨w.heap.size, 31, none⟩ = some (.int .u8 (dg 256 x 31 : Nat)) := r0 31 _ (yl_get 32 x 31 (by decide))
  have d2 : W1.cell? ⟨b3, 0, none⟩ = some (.int .u8 (dg 256 x 0 : Nat)) := hr1 0 _ (yl_get 32 x 0 (by decide))
  have d3 : W1.cell? ⟨b3, 31, none⟩ = some (.int .u8 (dg 256 x 31 : Nat)) := hr1 31 _ (yl_get 32 x 31 (by decide))
  have f0 : W1.frozen? ⟨b3, 0, none⟩ = false := (ht1 0 (by decide)).2
  have f1 : W1.frozen? ⟨b3, 31, none⟩ = false := (ht1 31 (by decide)).2
  have q0 : dg 256 x 0 < 256 := dg_lt (by decide)
  have q1 : dg 256 x 31 < 256 := dg_lt (by decide)
  have z0 : dg 256 x 0 / 8 * 8 < 256 := by omega
  have z1 : dg 256 x 31 % 64 + 64 < 256 := by omega
  have hr : ((W1.setCell ⟨b3, 0, none⟩ (.int .u8 ((dg 256 x 0 / 8 * 8 : Nat) : Int))).setCell ⟨b3, 31, none⟩ (.int .u8 ((dg 256 x 31 % 64 + 64 : Nat) : Int))).rangeAt b3 0 (yl 32 (cl x)) := yrange_set (yrange_set hr1 z0 (by decide)) z1 (by decide)
  have HR := Hid.of (And.intro hr (And.intro (there_setCell (there_setCell H1.out.1 ⟨b3, 0, none⟩ (.int .u8 ((dg 256 x 0 / 8 * 8 : Nat) : Int))) ⟨b3, 31, none⟩ (.int .u8 ((dg 256 x 31 % 64 + 64 : Nat) : Int))) (Grown.setCell (Grown.setCell H1.out.2 (a := ⟨b3, 0, none⟩) (Nat.le_of_lt hb) (.int .u8 ((dg 256 x 0 / 8 * 8 : Nat) : Int))) (a := ⟨b3, 31, none⟩) (Nat.le_of_lt hb) (.int .u8 ((dg 256 x 31 % 64 + 64 : Nat) : Int)))))
  have e0 := (div8_u8 _ q0).2
  have e1 := mod64_u8 (dg 256 x 31)
  have e2 : ((dg 256 x 0 / 8 : Nat) : Int) * 8 = ((dg 256 x 0 / 8 * 8 : Nat) : Int) := by omega
  have e3 : ((dg 256 x 31 % 64 : Nat) : Int) + 64 = ((dg 256 x 31 % 64 + 64 : Nat) : Int) := by omega
  have hne : w.heap.size ≠ b3 := by omega
  clear hr r0 hr1 ht1 H1
  generalize dg 256 x 31 % 64 + 64 = y1 at *
  generalize dg 256 x 31 % 64 = y2 at *
  generalize dg 256 x 0 / 8 * 8 = y0 at *
  generalize dg 256 x 0 / 8 = y3 at *
  generalize dg 256 x 0 = x0 at *
  generalize dg 256 x 31 = x1 at *
  go_wp2_with (with_reducible show wpList _ _ _ ({ dst := _, op := Op.load 23 _, type := _, pos := _, after := _, guard := _ } :: _) _ _; refine Shut.out ?_)
  show wpList _ _ _ _ _ _
  generalize ((W1.setCell ⟨b3, 0, none⟩ (.int .u8 (y0 : Int))).setCell ⟨b3, 31, none⟩ (.int .u8 (y1 : Int))) = W2 at *
  go_wp2_with (with_reducible show wpList _ _ _ ({ dst := _, op := Op.load 23 _, type := _, pos := _, after := _, guard := _ } :: _) _ _; refine Shut.out ?_)
  show wpList _ _ _ _ _ _
  refine wpList_load32 rfl _ rfl (b3) rfl (cl x) (HR.out.1) ?_
  simp only [Act.put, List.setIfInBounds_toArray, List.set_cons_zero, List.set_cons_succ]
  refine wpList_store32 rfl _ _ rfl (w.heap.size + 1) (cl x) rfl rfl (HR.out.2.1) ?_
  simp only [Act.put]
  apply wpList_nil
  repeat go_step
  refine bodyPost_ret (v := yv 32 (cl x)) (result32 Tryd.results57 _ _ (w.heap.size + 1) _ ?hp (World.rangeAt_setCells_same _ _ _ _ (by rw [yl_length]; exact HR.out.2.1))) ?hd ?_
  case hp => rfl
  case hd => rfl
  exact ⟨rfl, grown_setCells (by omega) _ _ (HR.out.2.2)⟩
end Go.Proofs.YteijccjdejjbjaaDoor
namespace Go.Proofs.YteijccjdejjbjaaDoor
open Go.RowKit Go.Shelf ScalarNum

theorem mul_sinv0 {a : Nat} (h : ¬ sred a = 0) : a * sinv a % L = 1 := by
  unfold sinv
  unfold sred at h
  rw [Nat.mul_mod_mod, Nat.mul_comm, ← Nat.pow_succ, show (L - 2).succ = L - 1 from by decide]
  exact fermat pr_L (fun hd => h (Nat.dvd_iff_mod_eq_zero.1 hd))
theorem mul_sinv {a : Nat} (h : ¬ sred a = 0) : smad a (sinv a) 0 = 1 := by
  unfold smad; rw [Nat.add_zero]; exact mul_sinv0 h
theorem sinv_zero {a : Nat} (h : sred a = 0) : sinv a = 0 := by
  unfold sinv
  unfold sred at h
  rw [Nat.pow_mod, h, Nat.zero_pow (by decide), Nat.zero_mod]
theorem sinv_ne {a : Nat} (h : ¬ sred a = 0) : ¬ sred (sinv a) = 0 := by
  intro h0
  have h1 := mul_sinv0 h
  unfold sred at h0
  rw [← Nat.mul_mod_mod, h0, Nat.mul_zero, Nat.zero_mod] at h1
  exact absurd h1 (by decide)
theorem sinv_sinv {a : Nat} (h : ¬ sred a = 0) : sinv (sinv a) = sred a := by
  have h1 := mul_sinv0 h
  have h2 := mul_sinv0 (sinv_ne h)
  have h3 : ¬ L ∣ sinv a := fun hd => sinv_ne h (Nat.dvd_iff_mod_eq_zero.1 hd)
  have h4 := pr_L.cancel (a := sinv (sinv a)) (b := a) h3 (by rw [h1, Nat.mul_comm, h2])
  rw [Nat.mod_eq_of_lt (sinv_ltL _)] at h4
  exact h4
theorem half_two (t : Nat) (ht : t = 2) : sadd (sinv t) (sinv t) = 1 := by
  have h := mul_sinv0 (a := t) (by rw [ht]; decide)
  unfold sadd
  rw [← h]
  generalize sinv t = y
  rw [ht]
  congr 1
  omega

set_option maxRecDepth 100000 in
set_option maxHeartbeats 4000000 in
theorem inverts_walk0 (a t : Nat) (ha : a < M) (ht : Hid (t = 2)) (htM : t < M) (hhalf : Hid (sadd (sinv t) (sinv t) = 1)) (h0 : Hid (sred a = 0)) (w : World) (hT : Tab w) :
    Calls Tryd.prog 11 #[yv 32 a] w fun e w' => e = .returned (.bool true) ∧ Grown w w' := by
  rw [yv]
  go_enter Tryd.func11, Tryd.ntmps11
  go_wp2_with (with_reducible show wpList _ _ _ ({ dst := _, op := Op.load 23 _, type := _, pos := _, after := _, guard := _ } :: _) _ _; refine Shut.out ?_)
  show wpList _ _ _ _ _ _
  obtain ⟨hE0, hW0⟩ := params1 w a
  generalize (w.alloc (Obj.cells (yl 32 a).toArray 23)) = W0 at hE0 hW0 ⊢
  refine wpList_load32 rfl _ rfl _ rfl (a) (hE0 (w.heap.size, a) (.head _)) ?_
  simp only [Act.put, List.setIfInBounds_toArray, List.set_cons_zero, List.set_cons_succ]
  go_wp2_with fail
  refine Calls.mono (Invert_num (a) ha _ (hT.grown hW0)) ?_
  rintro e w1 ⟨rfl, hg1⟩
  dsimp only
  go_step
  have hE1 := hE0.grown hg1
  have hW1 := grown_trans hW0 hg1
  clear hE0 hW0 hg1
  go_wp2_with (with_reducible show wpList _ _ _ ({ dst := _, op := Op.store 23 _ _, type := _, pos := _, after := _, guard := _ } :: _) _ _; refine Shut.out ?_)
  show wpList _ _ _ _ _ _
  refine wpList_store_new (sinv (a)) (by simp) rfl rfl rfl rfl (fun w2 hg2 hr2 _ => ?_)
  simp only [Act.put]
  have hE2 := (hE1.grown hg2).cons hr2
  have hW2 := grown_trans hW1 hg2
  clear hE1 hW1 hg2 hr2
  apply wpList_nil
  repeat ((fail_if_success (with_reducible show Code.wp _ (Code.region _ _ _) _ _ _)); go_step)
  apply wp_region_lit
  refine wpList_load32 rfl _ rfl _ rfl (a) (hE2 (w.heap.size, a) (.tail _ (.head _))) ?_
  simp only [Act.put, List.setIfInBounds_toArray, List.set_cons_zero, List.set_cons_succ]
  go_wp2_with fail
  refine Calls.mono (cut_num (a) ha _ (hT.grown hW2)) ?_
  rintro e w3 ⟨rfl, hg3⟩
  dsimp only
  go_step
  have hE3 := hE2.grown hg3
  have hW3 := grown_trans hW2 hg3
  clear hE2 hW2 hg3
  go_wp2_with (with_reducible show wpList _ _ _ ({ dst := _, op := Op.store 23 _ _, type := _, pos := _, after := _, guard := _ } :: _) _ _; refine Shut.out ?_)
  show wpList _ _ _ _ _ _
  refine wpList_store_new (sred (a)) (by simp) rfl rfl rfl rfl (fun w4 hg4 hr4 _ => ?_)
  simp only [Act.put]
  have hE4 := (hE3.grown hg4).cons hr4
  have hW4 := grown_trans hW3 hg4
  clear hE3 hW3 hg4 hr4
  apply wpList_nil
  repeat ((fail_if_success (with_reducible show Code.wp _ (Code.region _ _ _) _ _ _)); go_step)
  apply wp_region_lit
  go_wp2_with fail
  refine Calls.mono (number_nat t (by rw [ht.out]; decide) 2 (by rw [ht.out]; rfl) _) ?_
  rintro e w5 ⟨rfl, hg5⟩
  dsimp only
  go_step
  have hE5 := hE4.grown hg5
  have hW5 := grown_trans hW4 hg5
  clear hE4 hW4 hg5
  go_wp2_with fail
  refine Calls.mono (Invert_num (t) htM _ (hT.grown hW5)) ?_
  rintro e w6 ⟨rfl, hg6⟩
  dsimp only
  go_step
  have hE6 := hE5.grown hg6
  have hW6 := grown_trans hW5 hg6
  clear hE5 hW5 hg6
  go_wp2_with (with_reducible show wpList _ _ _ ({ dst := _, op := Op.store 23 _ _, type := _, pos := _, after := _, guard := _ } :: _) _ _; refine Shut.out ?_)
  show wpList _ _ _ _ _ _
  refine wpList_store_new (sinv (t)) (by simp) rfl rfl rfl rfl (fun w7 hg7 hr7 _ => ?_)
  simp only [Act.put]
  have hE7 := (hE6.grown hg7).cons hr7
  have hW7 := grown_trans hW6 hg7
  clear hE6 hW6 hg7 hr7
  apply wpList_nil
  repeat ((fail_if_success (with_reducible show Code.wp _ (Code.region _ _ _) _ _ _)); go_step)
  refine wp_region_noPanic ?_
  refine wp_region_held_drew (S := fun w' => Holds [(w6.heap.size, sinv (t)), (w3.heap.size, sred (a)), (w1.heap.size, sinv (a)), (w.heap.size, a)] w' ∧ Grown w w') (by kernel_rfl) ⟨hE7, hW7⟩ (fun hH8 => ?_)
  clear hE7 hW7
  refine take32 0 (sinv (t)) (w6.heap.size) rfl (by kernel_rfl) (by kernel_rfl) (by kernel_rfl) (fun _ _ _ h => h) (by rfl) rfl rfl (fun _ h => h.1 (w6.heap.size, sinv (t)) (.head _)) hH8 ?_
  simp only [Act.put, List.setIfInBounds_toArray, List.set_cons_zero, List.set_cons_succ]
  refine take32 1 (sinv (t)) (w6.heap.size) rfl (by kernel_rfl) (by kernel_rfl) (by kernel_rfl) (fun _ _ _ h => h) (by rfl) rfl rfl (fun _ h => h.1 (w6.heap.size, sinv (t)) (.head _)) hH8 ?_
  simp only [Act.put, List.setIfInBounds_toArray, List.set_cons_zero, List.set_cons_succ]
  refine step1 2 (by kernel_rfl) rfl (fun K hK => ?_)
  rw [if_pos (by rfl)]
  go_simp
  refine Calls.mono (Add_num (sinv (t)) (sinv (t)) (sinv_lt _) (sinv_lt _) _ (hT.grown hH8.2)) ?_
  rintro e w9 ⟨rfl, hg9⟩
  dsimp only
  refine hK.out _ _ (keepE hH8 hg9) (fun hH9 => ?_)
  clear hK K
  clear hH8
  clear hg9
  refine step1 3 (by kernel_rfl) rfl (fun K hK => ?_)
  rw [if_pos (by rfl)]
  go_simp
  refine Calls.mono (number_nat 1 (by decide) 1 rfl _) ?_
  rintro e w10 ⟨rfl, hg10⟩
  dsimp only
  refine hK.out _ _ (keepE hH9 hg10) (fun hH10 => ?_)
  clear hK K
  clear hH9
  clear hg10
  refine takeV 4 (.bool false) rfl (by kernel_rfl) (by kernel_rfl) (by kernel_rfl) (fun _ _ _ h => h) (by rfl) (fun w _ => exec_neq_same rfl (sadd (sinv (t)) (sinv (t))) (1) rfl rfl (sadd_lt _ _) (by decide) (hhalf.out) w) hH10 ?_
  simp only [Act.put, List.setIfInBounds_toArray, List.set_cons_zero, List.set_cons_succ]
  refine takeV 5 (.bool false) rfl (by kernel_rfl) (by kernel_rfl) (by kernel_rfl) (fun _ _ _ h => h) (by rfl) (fun w _ => rfl) hH10 ?_
  simp only [Act.put, List.setIfInBounds_toArray, List.set_cons_zero, List.set_cons_succ]
  refine take32 6 (sinv (a)) (w1.heap.size) rfl (by kernel_rfl) (by kernel_rfl) (by kernel_rfl) (fun _ _ _ h => h) (by rfl) rfl rfl (fun _ h => h.1 (w1.heap.size, sinv (a)) (.tail _ (.tail _ (.head _)))) hH10 ?_
  simp only [Act.put, List.setIfInBounds_toArray, List.set_cons_zero, List.set_cons_succ]
  refine step1 7 (by kernel_rfl) rfl (fun K hK => ?_)
  rw [if_pos (by rfl)]
  go_simp
  refine Calls.mono (Order_num _ (hT.grown hH10.2)) ?_
  rintro e w11 ⟨rfl, hg11⟩
  dsimp only
  refine hK.out _ _ (keepE hH10 hg11) (fun hH11 => ?_)
  clear hK K
  clear hH10
  clear hg11
  refine step1 8 (by kernel_rfl) rfl (fun K hK => ?_)
  rw [if_pos (by rfl)]
  go_simp
  refine Calls.mono (less_is (sinv (a)) (L) (sinv_lt _) L_lt_M true (decide_eq_true (sinv_ltL a)) _) ?_
  rintro e w12 ⟨rfl, hg12⟩
  dsimp only
  refine hK.out _ _ (keepE hH11 hg12) (fun hH12 => ?_)
  clear hK K
  clear hH11
  clear hg12
  refine takeV 9 (.bool false) rfl (by kernel_rfl) (by kernel_rfl) (by kernel_rfl) (fun _ _ _ h => h) (by rfl) (fun w _ => by first | rfl | go_simp) hH12 ?_
  simp only [Act.put, List.setIfInBounds_toArray, List.set_cons_zero, List.set_cons_succ]
  refine takeV 10 (.bool false) rfl (by kernel_rfl) (by kernel_rfl) (by kernel_rfl) (fun _ _ _ h => h) (by rfl) (fun w _ => rfl) hH12 ?_
  simp only [Act.put, List.setIfInBounds_toArray, List.set_cons_zero, List.set_cons_succ]
  refine wpAnyH_done (by kernel_rfl) ?_ _
  refine NoPanic.normal ?_
  obtain ⟨hE13, hW13⟩ := hH12
  repeat ((fail_if_success (with_reducible show Code.wp _ (Code.region _ _ _) _ _ _)); go_step)
  refine wp_region_noPanic ?_
  refine wp_region_held_drew (S := fun w' => Holds [(w6.heap.size, sinv (t)), (w3.heap.size, sred (a)), (w1.heap.size, sinv (a)), (w.heap.size, a)] w' ∧ Grown w w') (by kernel_rfl) ⟨hE13, hW13⟩ (fun hH14 => ?_)
  clear hE13 hW13
  refine take32 0 (sred (a)) (w3.heap.size) rfl (by kernel_rfl) (by kernel_rfl) (by kernel_rfl) (fun _ _ _ h => h) (by rfl) rfl rfl (fun _ h => h.1 (w3.heap.size, sred (a)) (.tail _ (.head _))) hH14 ?_
  simp only [Act.put, List.setIfInBounds_toArray, List.set_cons_zero, List.set_cons_succ]
  refine step1 1 (by kernel_rfl) rfl (fun K hK => ?_)
  rw [if_pos (by rfl)]
  go_simp
  refine Calls.mono (number_nat 0 (by decide) 0 rfl _) ?_
  rintro e w15 ⟨rfl, hg15⟩
  dsimp only
  refine hK.out _ _ (keepE hH14 hg15) (fun hH15 => ?_)
  clear hK K
  clear hH14
  clear hg15
  refine takeV 2 (.bool true) rfl (by kernel_rfl) (by kernel_rfl) (by kernel_rfl) (fun _ _ _ h => h) (by rfl) (fun w _ => exec_eql_same rfl (sred (a)) (0) rfl rfl (sred_lt _) (by decide) (h0.out) w) hH15 ?_
  simp only [Act.put, List.setIfInBounds_toArray, List.set_cons_zero, List.set_cons_succ]
  refine wpAnyH_done (by kernel_rfl) ?_ _
  refine NoPanic.normal ?_
  obtain ⟨hE16, hW16⟩ := hH15
  repeat ((fail_if_success (with_reducible show Code.wp _ (Code.region _ _ _) _ _ _)); go_step)
  refine wp_region_noPanic ?_
  refine wp_region_held_drew (S := fun w' => Holds [(w6.heap.size, sinv (t)), (w3.heap.size, sred (a)), (w1.heap.size, sinv (a)), (w.heap.size, a)] w' ∧ Grown w w') (by kernel_rfl) ⟨hE16, hW16⟩ (fun hH17 => ?_)
  clear hE16 hW16
  refine take32 0 (sinv (a)) (w1.heap.size) rfl (by kernel_rfl) (by kernel_rfl) (by kernel_rfl) (fun _ _ _ h => h) (by rfl) rfl rfl (fun _ h => h.1 (w1.heap.size, sinv (a)) (.tail _ (.tail _ (.head _)))) hH17 ?_
  simp only [Act.put, List.setIfInBounds_toArray, List.set_cons_zero, List.set_cons_succ]
  refine step1 1 (by kernel_rfl) rfl (fun K hK => ?_)
  rw [if_pos (by rfl)]
  go_simp
  refine Calls.mono (number_nat 0 (by decide) 0 rfl _) ?_
  rintro e w18 ⟨rfl, hg18⟩
  dsimp only
  refine hK.out _ _ (keepE hH17 hg18) (fun hH18 => ?_)
  clear hK K
  clear hH17
  clear hg18
  refine takeV 2 (.bool true) rfl (by kernel_rfl) (by kernel_rfl) (by kernel_rfl) (fun _ _ _ h => h) (by rfl) (fun w _ => exec_eql_same rfl (sinv (a)) (0) rfl rfl (sinv_lt _) (by decide) (sinv_zero h0.out) w) hH18 ?_
  simp only [Act.put, List.setIfInBounds_toArray, List.set_cons_zero, List.set_cons_succ]
  refine takeV 3 (.bool true) rfl (by kernel_rfl) (by kernel_rfl) (by kernel_rfl) (fun _ _ _ h => h) (by rfl) (fun w _ => rfl) hH18 ?_
  simp only [Act.put, List.setIfInBounds_toArray, List.set_cons_zero, List.set_cons_succ]
  refine wpAnyH_done (by kernel_rfl) ?_ _
  refine NoPanic.normal ?_
  obtain ⟨hE19, hW19⟩ := hH18
  repeat go_step
  go_ret
  exact ⟨rfl, by first | assumption | exact hW19⟩

set_option maxRecDepth 100000 in
set_option maxHeartbeats 4000000 in
theorem inverts_walk1 (a t : Nat) (ha : a < M) (ht : Hid (t = 2)) (htM : t < M) (hhalf : Hid (sadd (sinv t) (sinv t) = 1)) (h0 : Hid (¬ sred a = 0)) (w : World) (hT : Tab w) :
    Calls Tryd.prog 11 #[yv 32 a] w fun e w' => e = .returned (.bool true) ∧ Grown w w' := by
  rw [yv]
  go_enter Tryd.func11, Tryd.ntmps11
  go_wp2_with (with_reducible show wpList _ _ _ ({ dst := _, op := Op.load 23 _, type := _, pos := _, after := _, guard := _ } :: _) _ _; refine Shut.out ?_)
  show wpList _ _ _ _ _ _
  obtain ⟨hE0, hW0⟩ := params1 w a
  generalize (w.alloc (Obj.cells (yl 32 a).toArray 23)) = W0 at hE0 hW0 ⊢
  refine wpList_load32 rfl _ rfl _ rfl (a) (hE0 (w.heap.size, a) (.head _)) ?_
  simp only [Act.put, List.setIfInBounds_toArray, List.set_cons_zero, List.set_cons_succ]
  go_wp2_with fail
  refine Calls.mono (Invert_num (a) ha _ (hT.grown hW0)) ?_
  rintro e w1 ⟨rfl, hg1⟩
  dsimp only
  go_step
  have hE1 := hE0.grown hg1
  have hW1 := grown_trans hW0 hg1
  clear hE0 hW0 hg1
  go_wp2_with (with_reducible show wpList _ _ _ ({ dst := _, op := Op.store 23 _ _, type := _, pos := _, after := _, guard := _ } :: _) _ _; refine Shut.out ?_)
  show wpList _ _ _ _ _ _
  refine wpList_store_new (sinv (a)) (by simp) rfl rfl rfl rfl (fun w2 hg2 hr2 _ => ?_)
  simp only [Act.put]
  have hE2 := (hE1.grown hg2).cons hr2
  have hW2 := grown_trans hW1 hg2
  clear hE1 hW1 hg2 hr2
  apply wpList_nil
  repeat ((fail_if_success (with_reducible show Code.wp _ (Code.region _ _ _) _ _ _)); go_step)
  apply wp_region_lit
  refine wpList_load32 rfl _ rfl _ rfl (a) (hE2 (w.heap.size, a) (.tail _ (.head _))) ?_
  simp only [Act.put, List.setIfInBounds_toArray, List.set_cons_zero, List.set_cons_succ]
  go_wp2_with fail
  refine Calls.mono (cut_num (a) ha _ (hT.grown hW2)) ?_
  rintro e w3 ⟨rfl, hg3⟩
  dsimp only
  go_step
  have hE3 := hE2.grown hg3
  have hW3 := grown_trans hW2 hg3
  clear hE2 hW2 hg3
  go_wp2_with (with_reducible show wpList _ _ _ ({ dst := _, op := Op.store 23 _ _, type := _, pos := _, after := _, guard := _ } :: _) _ _; refine Shut.out ?_)
  show wpList _ _ _ _ _ _
  refine wpList_store_new (sred (a)) (by simp) rfl rfl rfl rfl (fun w4 hg4 hr4 _ => ?_)
  simp only [Act.put]
  have hE4 := (hE3.grown hg4).cons hr4
  have hW4 := grown_trans hW3 hg4
  clear hE3 hW3 hg4 hr4
  apply wpList_nil
  repeat ((fail_if_success (with_reducible show Code.wp _ (Code.region _ _ _) _ _ _)); go_step)
  apply wp_region_lit
  go_wp2_with fail
  refine Calls.mono (number_nat t (by rw [ht.out]; decide) 2 (by rw [ht.out]; rfl) _) ?_
  rintro e w5 ⟨rfl, hg5⟩
  dsimp only
  go_step
  have hE5 := hE4.grown hg5
  have hW5 := grown_trans hW4 hg5
  clear hE4 hW4 hg5
  go_wp2_with fail
  refine Calls.mono (Invert_num (t) htM _ (hT.grown hW5)) ?_
  rintro e w6 ⟨rfl, hg6⟩
  dsimp only
  go_step
  have hE6 := hE5.grown hg6
  have hW6 := grown_trans hW5 hg6
  clear hE5 hW5 hg6
  go_wp2_with (with_reducible show wpList _ _ _ ({ dst := _, op := Op.store 23 _ _, type := _, pos := _, after := _, guard := _ } :: _) _ _; refine Shut.out ?_)
  show wpList _ _ _ _ _ _
  refine wpList_store_new (sinv (t)) (by simp) rfl rfl rfl rfl (fun w7 hg7 hr7 _ => ?_)
  simp only [Act.put]
  have hE7 := (hE6.grown hg7).cons hr7
  have hW7 := grown_trans hW6 hg7
  clear hE6 hW6 hg7 hr7
  apply wpList_nil
  repeat ((fail_if_success (with_reducible show Code.wp _ (Code.region _ _ _) _ _ _)); go_step)
  refine wp_region_noPanic ?_
  refine wp_region_held_drew (S := fun w' => Holds [(w6.heap.size, sinv (t)), (w3.heap.size, sred (a)), (w1.heap.size, sinv (a)), (w.heap.size, a)] w' ∧ Grown w w') (by kernel_rfl) ⟨hE7, hW7⟩ (fun hH8 => ?_)
  clear hE7 hW7
  refine take32 0 (sinv (t)) (w6.heap.size) rfl (by kernel_rfl) (by kernel_rfl) (by kernel_rfl) (fun _ _ _ h => h) (by rfl) rfl rfl (fun _ h => h.1 (w6.heap.size, sinv (t)) (.head _)) hH8 ?_
  simp only [Act.put, List.setIfInBounds_toArray, List.set_cons_zero, List.set_cons_succ]
  refine take32 1 (sinv (t)) (w6.heap.size) rfl (by kernel_rfl) (by kernel_rfl) (by kernel_rfl) (fun _ _ _ h => h) (by rfl) rfl rfl (fun _ h => h.1 (w6.heap.size, sinv (t)) (.head _)) hH8 ?_
  simp only [Act.put, List.setIfInBounds_toArray, List.set_cons_zero, List.set_cons_succ]
  refine step1 2 (by kernel_rfl) rfl (fun K hK => ?_)
  rw [if_pos (by rfl)]
  go_simp
  refine Calls.mono (Add_num (sinv (t)) (sinv (t)) (sinv_lt _) (sinv_lt _) _ (hT.grown hH8.2)) ?_
  rintro e w9 ⟨rfl, hg9⟩
  dsimp only
  refine hK.out _ _ (keepE hH8 hg9) (fun hH9 => ?_)
  clear hK K
  clear hH8
  clear hg9
  refine step1 3 (by kernel_rfl) rfl (fun K hK => ?_)
  rw [if_pos (by rfl)]
  go_simp
  refine Calls.mono (number_nat 1 (by decide) 1 rfl _) ?_
  rintro e w10 ⟨rfl, hg10⟩
  dsimp only
  refine hK.out _ _ (keepE hH9 hg10) (fun hH10 => ?_)
  clear hK K
  clear hH9
  clear hg10
  refine takeV 4 (.bool false) rfl (by kernel_rfl) (by kernel_rfl) (by kernel_rfl) (fun _ _ _ h => h) (by rfl) (fun w _ => exec_neq_same rfl (sadd (sinv (t)) (sinv (t))) (1) rfl rfl (sadd_lt _ _) (by decide) (hhalf.out) w) hH10 ?_
  simp only [Act.put, List.setIfInBounds_toArray, List.set_cons_zero, List.set_cons_succ]
  refine takeV 5 (.bool false) rfl (by kernel_rfl) (by kernel_rfl) (by kernel_rfl) (fun _ _ _ h => h) (by rfl) (fun w _ => rfl) hH10 ?_
  simp only [Act.put, List.setIfInBounds_toArray, List.set_cons_zero, List.set_cons_succ]
  refine take32 6 (sinv (a)) (w1.heap.size) rfl (by kernel_rfl) (by kernel_rfl) (by kernel_rfl) (fun _ _ _ h => h) (by rfl) rfl rfl (fun _ h => h.1 (w1.heap.size, sinv (a)) (.tail _ (.tail _ (.head _)))) hH10 ?_
  simp only [Act.put, List.setIfInBounds_toArray, List.set_cons_zero, List.set_cons_succ]
  refine step1 7 (by kernel_rfl) rfl (fun K hK => ?_)
  rw [if_pos (by rfl)]
  go_simp
  refine Calls.mono (Order_num _ (hT.grown hH10.2)) ?_
  rintro e w11 ⟨rfl, hg11⟩
  dsimp only
  refine hK.out _ _ (keepE hH10 hg11) (fun hH11 => ?_)
  clear hK K
  clear hH10
  clear hg11
  refine step1 8 (by kernel_rfl) rfl (fun K hK => ?_)
  rw [if_pos (by rfl)]
  go_simp
  refine Calls.mono (less_is (sinv (a)) (L) (sinv_lt _) L_lt_M true (decide_eq_true (sinv_ltL a)) _) ?_
  rintro e w12 ⟨rfl, hg12⟩
  dsimp only
  refine hK.out _ _ (keepE hH11 hg12) (fun hH12 => ?_)
  clear hK K
  clear hH11
  clear hg12
  refine takeV 9 (.bool false) rfl (by kernel_rfl) (by kernel_rfl) (by kernel_rfl) (fun _ _ _ h => h) (by rfl) (fun w _ => by first | rfl | go_simp) hH12 ?_
  simp only [Act.put, List.setIfInBounds_toArray, List.set_cons_zero, List.set_cons_succ]
  refine takeV 10 (.bool false) rfl (by kernel_rfl) (by kernel_rfl) (by kernel_rfl) (fun _ _ _ h => h) (by rfl) (fun w _ => rfl) hH12 ?_
  simp only [Act.put, List.setIfInBounds_toArray, List.set_cons_zero, List.set_cons_succ]
  refine wpAnyH_done (by kernel_rfl) ?_ _
  refine NoPanic.normal ?_
  obtain ⟨hE13, hW13⟩ := hH12
  repeat ((fail_if_success (with_reducible show Code.wp _ (Code.region _ _ _) _ _ _)); go_step)
  refine wp_region_noPanic ?_
  refine wp_region_held_drew (S := fun w' => Holds [(w6.heap.size, sinv (t)), (w3.heap.size, sred (a)), (w1.heap.size, sinv (a)), (w.heap.size, a)] w' ∧ Grown w w') (by kernel_rfl) ⟨hE13, hW13⟩ (fun hH14 => ?_)
  clear hE13 hW13
  refine take32 0 (sred (a)) (w3.heap.size) rfl (by kernel_rfl) (by kernel_rfl) (by kernel_rfl) (fun _ _ _ h => h) (by rfl) rfl rfl (fun _ h => h.1 (w3.heap.size, sred (a)) (.tail _ (.head _))) hH14 ?_
  simp only [Act.put, List.setIfInBounds_toArray, List.set_cons_zero, List.set_cons_succ]
  refine step1 1 (by kernel_rfl) rfl (fun K hK => ?_)
  rw [if_pos (by rfl)]
  go_simp
  refine Calls.mono (number_nat 0 (by decide) 0 rfl _) ?_
  rintro e w15 ⟨rfl, hg15⟩
  dsimp only
  refine hK.out _ _ (keepE hH14 hg15) (fun hH15 => ?_)
  clear hK K
  clear hH14
  clear hg15
  refine takeV 2 (.bool false) rfl (by kernel_rfl) (by kernel_rfl) (by kernel_rfl) (fun _ _ _ h => h) (by rfl) (fun w _ => exec_eql_apart rfl (sred (a)) (0) rfl rfl (sred_lt _) (by decide) (h0.out) w) hH15 ?_
  simp only [Act.put, List.setIfInBounds_toArray, List.set_cons_zero, List.set_cons_succ]
  refine wpAnyH_done (by kernel_rfl) ?_ _
  refine NoPanic.normal ?_
  obtain ⟨hE16, hW16⟩ := hH15
  repeat ((fail_if_success (with_reducible show Code.wp _ (Code.region _ _ _) _ _ _)); go_step)
  refine wp_region_noPanic ?_
  refine wp_region_held_drew (S := fun w' => Holds [(w6.heap.size, sinv (t)), (w3.heap.size, sred (a)), (w1.heap.size, sinv (a)), (w.heap.size, a)] w' ∧ Grown w w') (by kernel_rfl) ⟨hE16, hW16⟩ (fun hH17 => ?_)
  clear hE16 hW16
  refine take32 0 (a) (w.heap.size) rfl (by kernel_rfl) (by kernel_rfl) (by kernel_rfl) (fun _ _ _ h => h) (by rfl) rfl rfl (fun _ h => h.1 (w.heap.size, a) (.tail _ (.tail _ (.tail _ (.head _))))) hH17 ?_
  simp only [Act.put, List.setIfInBounds_toArray, List.set_cons_zero, List.set_cons_succ]
  refine take32 1 (sinv (a)) (w1.heap.size) rfl (by kernel_rfl) (by kernel_rfl) (by kernel_rfl) (fun _ _ _ h => h) (by rfl) rfl rfl (fun _ h => h.1 (w1.heap.size, sinv (a)) (.tail _ (.tail _ (.head _)))) hH17 ?_
  simp only [Act.put, List.setIfInBounds_toArray, List.set_cons_zero, List.set_cons_succ]
  refine step1 2 (by kernel_rfl) rfl (fun K hK => ?_)
  rw [if_pos (by rfl)]
  go_simp
  refine Calls.mono (number_nat 0 (by decide) 0 rfl _) ?_
  rintro e w18 ⟨rfl, hg18⟩
  dsimp only
  refine hK.out _ _ (keepE hH17 hg18) (fun hH18 => ?_)
  clear hK K
  clear hH17
  clear hg18
  refine step1 3 (by kernel_rfl) rfl (fun K hK => ?_)
  rw [if_pos (by rfl)]
  go_simp
  refine Calls.mono (MulAdd_num (a) (sinv (a)) (0) ha (sinv_lt _) (by decide) _ (hT.grown hH18.2)) ?_
  rintro e w19 ⟨rfl, hg19⟩
  dsimp only
  refine hK.out _ _ (keepE hH18 hg19) (fun hH19 => ?_)
  clear hK K
  clear hH18
  clear hg19
  refine step1 4 (by kernel_rfl) rfl (fun K hK => ?_)
  rw [if_pos (by rfl)]
  go_simp
  refine Calls.mono (number_nat 1 (by decide) 1 rfl _) ?_
  rintro e w20 ⟨rfl, hg20⟩
  dsimp only
  refine hK.out _ _ (keepE hH19 hg20) (fun hH20 => ?_)
  clear hK K
  clear hH19
  clear hg20
  refine takeV 5 (.bool true) rfl (by kernel_rfl) (by kernel_rfl) (by kernel_rfl) (fun _ _ _ h => h) (by rfl) (fun w _ => exec_eql_same rfl (smad (a) (sinv (a)) (0)) (1) rfl rfl (smad_lt _ _ _) (by decide) (mul_sinv h0.out) w) hH20 ?_
  simp only [Act.put, List.setIfInBounds_toArray, List.set_cons_zero, List.set_cons_succ]
  refine takeV 6 (.bool true) rfl (by kernel_rfl) (by kernel_rfl) (by kernel_rfl) (fun _ _ _ h => h) (by rfl) (fun w _ => rfl) hH20 ?_
  simp only [Act.put, List.setIfInBounds_toArray, List.set_cons_zero, List.set_cons_succ]
  refine take32 7 (sinv (a)) (w1.heap.size) rfl (by kernel_rfl) (by kernel_rfl) (by kernel_rfl) (fun _ _ _ h => h) (by rfl) rfl rfl (fun _ h => h.1 (w1.heap.size, sinv (a)) (.tail _ (.tail _ (.head _)))) hH20 ?_
  simp only [Act.put, List.setIfInBounds_toArray, List.set_cons_zero, List.set_cons_succ]
  refine take32 9 (sred (a)) (w3.heap.size) rfl (by kernel_rfl) (by kernel_rfl) (by kernel_rfl) (fun _ _ _ h => h) (by rfl) rfl rfl (fun _ h => h.1 (w3.heap.size, sred (a)) (.tail _ (.head _))) hH20 ?_
  simp only [Act.put, List.setIfInBounds_toArray, List.set_cons_zero, List.set_cons_succ]
  refine step1 8 (by kernel_rfl) rfl (fun K hK => ?_)
  rw [if_pos (by rfl)]
  go_simp
  refine Calls.mono (Invert_num (sinv (a)) (sinv_lt _) _ (hT.grown hH20.2)) ?_
  rintro e w21 ⟨rfl, hg21⟩
  dsimp only
  refine hK.out _ _ (keepE hH20 hg21) (fun hH21 => ?_)
  clear hK K
  clear hH20
  clear hg21
  refine takeV 10 (.bool true) rfl (by kernel_rfl) (by kernel_rfl) (by kernel_rfl) (fun _ _ _ h => h) (by rfl) (fun w _ => exec_eql_same rfl (sinv (sinv (a))) (sred (a)) rfl rfl (sinv_lt _) (sred_lt _) (sinv_sinv h0.out) w) hH21 ?_
  simp only [Act.put, List.setIfInBounds_toArray, List.set_cons_zero, List.set_cons_succ]
  refine takeV 11 (.bool true) rfl (by kernel_rfl) (by kernel_rfl) (by kernel_rfl) (fun _ _ _ h => h) (by rfl) (fun w _ => rfl) hH21 ?_
  simp only [Act.put, List.setIfInBounds_toArray, List.set_cons_zero, List.set_cons_succ]
  refine takeV 12 (.bool true) rfl (by kernel_rfl) (by kernel_rfl) (by kernel_rfl) (fun _ _ _ h => h) (by rfl) (fun w _ => rfl) hH21 ?_
  simp only [Act.put, List.setIfInBounds_toArray, List.set_cons_zero, List.set_cons_succ]
  refine wpAnyH_done (by kernel_rfl) ?_ _
  refine NoPanic.normal ?_
  obtain ⟨hE22, hW22⟩ := hH21
  repeat go_step
  go_ret
  exact ⟨rfl, by first | assumption | exact hW22⟩
end Go.Proofs.YteijccjdejjbjaaDoor
