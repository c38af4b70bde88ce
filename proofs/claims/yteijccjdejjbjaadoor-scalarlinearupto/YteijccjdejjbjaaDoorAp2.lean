import Derived.Test.YteijccjdejjbjaaDoorAp
namespace Go.Proofs.YteijccjdejjbjaaDoor
open Go.RowKit Go.Shelf ScalarNum

theorem alloc3b (w : World) (t : TypeId) (c1 c2 : List Value) (c3 : Array Value) :
    (((w.alloc (.cells c1.toArray t)).alloc (.cells c2.toArray t)).alloc (.cells c3 t)).rangeAt w.heap.size 0 c1 ∧
    (((w.alloc (.cells c1.toArray t)).alloc (.cells c2.toArray t)).alloc (.cells c3 t)).rangeAt (w.heap.size + 1) 0 c2 ∧
    (((w.alloc (.cells c1.toArray t)).alloc (.cells c2.toArray t)).alloc (.cells c3 t)).there (w.heap.size + 1 + 1) 0 c3.size ∧
    Grown w (((w.alloc (.cells c1.toArray t)).alloc (.cells c2.toArray t)).alloc (.cells c3 t)) := by
  have g1 : ∀ (w : World) (t : TypeId) (a : Array Value), Grown w (w.alloc (.cells a t)) := fun w t a => Grown.alloc (Grown.refl _) _ _
  have s1 : (w.alloc (.cells c1.toArray t)).heap.size = w.heap.size + 1 := by simp
  have b1 := rangeAt_alloc_new w t c1
  have gV1 := g1 w t c1.toArray
  generalize w.alloc (.cells c1.toArray t) = V1 at *
  have s2 : (V1.alloc (.cells c2.toArray t)).heap.size = w.heap.size + 1 + 1 := by simp [s1]
  have b2 := rangeAt_alloc_new V1 t c2
  rw [s1] at b2
  have gV2 := g1 V1 t c2.toArray
  generalize V1.alloc (.cells c2.toArray t) = V2 at *
  have b3 := there_alloc_new V2 t c3 c3.size (Nat.le_refl _)
  rw [s2] at b3
  exact ⟨rangeAt_grown (rangeAt_grown b1 gV2) (g1 _ _ _), rangeAt_grown b2 (g1 _ _ _), b3, grown_trans (grown_trans gV1 gV2) (g1 _ _ _)⟩

theorem sum2 (x y : Nat) : (x % L + y % L) % M = x % L + y % L ∧ (x % L + y % L) % L = sadd x y ∧ x % L + y % L < M := by
  have h1 := modL_lt x
  have h2 := modL_lt y
  have h3 : L + L < M := by decide
  exact ⟨Nat.mod_eq_of_lt (by omega), by rw [← Nat.add_mod]; rfl, by omega⟩

set_option maxRecDepth 100000 in
set_option maxHeartbeats 1000000 in
theorem Add_num (x y : Nat) (hx : x < M) (hy : y < M) (w : World) (hT : Tab w) : Calls Tryd.prog 19 #[yv 32 x, yv 32 y] w fun e w' => e = .returned (yv 32 (sadd x y)) ∧ Grown w w' := by
  have h0 := alloc3b w 23 (yl 32 x) (yl 32 y) (yl 32 0).toArray
  rw [show (yl 32 0).toArray.size = 32 from rfl] at h0
  have HT := Hid.of hT
  have hsz := hT.lt
  clear hT
  rw [yv, yv]
  go_enter Tryd.func19, Tryd.ntmps19
  go_wp2_with (with_reducible show wpList _ _ _ ({ dst := _, op := Op.load 23 _, type := _, pos := _, after := _, guard := _ } :: _) _ _; refine Shut.out ?_)
  show wpList _ _ _ _ _ _
  rw [← yl32_zero]
  generalize (((w.alloc (.cells (yl 32 x).toArray 23)).alloc (.cells (yl 32 y).toArray 23)).alloc (.cells (yl 32 0).toArray 23)) = W0 at *
  have H0 := Hid.of h0
  clear h0
  refine wpList_load32 rfl _ rfl w.heap.size rfl x H0.out.1 ?_
  simp only [Act.put, List.setIfInBounds_toArray, List.set_cons_zero, List.set_cons_succ]
  go_wp2_with fail
  refine Calls.mono (load_num x hx _) ?_
  rintro e w1 ⟨rfl, g1⟩
  dsimp only
  go_wp2_with fail
  refine Calls.mono (reduced_num x hx _ ((HT.out.grown H0.out.2.2.2).grown g1)) ?_
  rintro e w2 ⟨rfl, g2⟩
  dsimp only
  have gg := grown_trans g1 g2
  have H1 := Hid.of (And.intro (rangeAt_grown H0.out.2.1 gg) (And.intro (there_grown H0.out.2.2.1 gg) (grown_trans H0.out.2.2.2 gg)))
  clear H0 g1 g2 gg
  have hlt : w.heap.size + 1 + 1 < w2.heap.size := there_lt H1.out.2.1 (by decide)
  go_wp2_with (with_reducible show wpList _ _ _ ({ dst := _, op := Op.store 62 _ _, type := _, pos := _, after := _, guard := _ } :: _) _ _; refine Shut.out ?_)
  show wpList _ _ _ _ _ _
  refine wpList_store_newN (x % L) (by simp) rfl rfl rfl rfl (fun w3 hg3 hr3 ht3 => ?_)
  simp only [Act.put]
  apply wpList_nil
  have H2 := Hid.of (And.intro (rangeAt_grown H1.out.1 hg3) (And.intro (there_grown H1.out.2.1 hg3) (And.intro (grown_trans H1.out.2.2 hg3) (And.intro hr3 ht3))))
  clear H1 hg3 hr3 ht3
  generalize w2.heap.size = bs at *
  go_wp2_with (with_reducible show wpList _ _ _ ({ dst := _, op := Op.load 23 _, type := _, pos := _, after := _, guard := _ } :: _) _ _; refine Shut.out ?_)
  show wpList _ _ _ _ _ _
  refine wpList_load32 rfl _ rfl (w.heap.size + 1) rfl y H2.out.1 ?_
  simp only [Act.put, List.setIfInBounds_toArray, List.set_cons_zero, List.set_cons_succ]
  go_wp2_with fail
  refine Calls.mono (load_num y hy _) ?_
  rintro e w4 ⟨rfl, g4⟩
  dsimp only
  go_wp2_with fail
  refine Calls.mono (reduced_num y hy _ ((HT.out.grown H2.out.2.2.1).grown g4)) ?_
  rintro e w5 ⟨rfl, g5⟩
  dsimp only
  have gg := grown_trans g4 g5
  have H3 := Hid.of (And.intro (there_grown H2.out.2.1 gg) (And.intro (grown_trans H2.out.2.2.1 gg) (And.intro (rangeAt_grown H2.out.2.2.2.1 gg) (there_grown H2.out.2.2.2.2 gg))))
  clear H2 g4 g5 gg
  go_wp2_with fail
  refine Calls.mono (add_num bs (x % L) (y % L) (modL_ltM _) (modL_ltM _) _ H3.out.2.2.1 H3.out.2.2.2) ?_
  rintro e w6 ⟨rfl, g6, r6, t6⟩
  obtain ⟨s1, s2, s3⟩ := sum2 x y
  rw [s1] at r6
  dsimp only
  have H4 := Hid.of (And.intro (g6.there H3.out.1 (by omega)) (And.intro (GB.own H3.out.2.1 (by omega) g6) r6))
  clear H3 g6 r6 t6 s1
  go_wp2_with (with_reducible show wpList _ _ _ ({ dst := _, op := Op.load 62 _, type := _, pos := _, after := _, guard := _ } :: _) _ _; refine Shut.out ?_)
  show wpList _ _ _ _ _ _
  refine wpList_loadN rfl _ rfl bs rfl (x % L + y % L) H4.out.2.2 ?_
  simp only [Act.put, List.setIfInBounds_toArray, List.set_cons_zero, List.set_cons_succ]
  go_wp2_with fail
  refine Calls.mono (reduced_num _ s3 _ (HT.out.grown H4.out.2.1)) ?_
  rintro e w7 ⟨rfl, g7⟩
  dsimp only
  rw [s2]
  go_wp2_with fail
  refine Calls.mono (bytes_num _ (sadd_lt x y) _) ?_
  rintro e w8 ⟨rfl, g8⟩
  dsimp only
  have gg := grown_trans g7 g8
  have H5 := Hid.of (And.intro (there_grown H4.out.1 gg) (grown_trans H4.out.2.1 gg))
  clear H4 g7 g8 gg s2 s3
  go_wp2_with (with_reducible show wpList _ _ _ ({ dst := _, op := Op.store 23 _ _, type := _, pos := _, after := _, guard := _ } :: _) _ _; refine Shut.out ?_)
  show wpList _ _ _ _ _ _
  refine wpList_store32 rfl _ _ rfl (w.heap.size + 1 + 1) (sadd x y) rfl rfl (H5.out.1) ?_
  simp only [Act.put]
  apply wpList_nil
  repeat go_step
  refine bodyPost_ret (v := yv 32 (sadd x y)) (result32 Tryd.results19 _ _ (w.heap.size + 1 + 1) _ ?hp (World.rangeAt_setCells_same _ _ _ _ (by rw [yl_length]; exact H5.out.1))) ?hd ?_
  case hp => rfl
  case hd => rfl
  exact ⟨rfl, grown_setCells (by omega) _ _ (H5.out.2)⟩
end Go.Proofs.YteijccjdejjbjaaDoor
