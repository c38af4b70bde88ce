import Derived.Test.YteijccjdejjbjaaDoorIv
import Derived.Test.YteijccjdejjbjaaDoorLess
namespace Go.Proofs.YteijccjdejjbjaaDoor
open Go.RowKit Go.Shelf ScalarNum

theorem keep2 {W w1 w2 : World} {b1 b2 : Nat} {xs : List Value} (h : w1.rangeAt b1 0 xs ∧ w1.there b2 0 32 ∧ Grown W w1) (hg : Grown w1 w2) :
    w2.rangeAt b1 0 xs ∧ w2.there b2 0 32 ∧ Grown W w2 :=
  ⟨rangeAt_grown h.1 hg, there_grown h.2.1 hg, grown_trans h.2.2 hg⟩

set_option maxRecDepth 100000 in
set_option maxHeartbeats 1000000 in
theorem cut_num (x : Nat) (hx : x < M) (w : World) (hT : Tab w) : Calls Tryd.prog 23 #[yv 32 x] w fun e w' => e = .returned (yv 32 (sred x)) ∧ Grown w w' := by
  have h0 := alloc2 w 23 23 (yl 32 x) (yl 32 0).toArray
  rw [show (yl 32 0).toArray.size = 32 from rfl] at h0
  have HT := Hid.of hT
  clear hT
  have es : smad x 1 0 = sred x := by unfold smad sred; rw [Nat.mul_one, Nat.add_zero]
  rw [yv]
  go_enter Tryd.func23, Tryd.ntmps23
  go_wp2
  rw [← yl32_zero]
  generalize ((w.alloc (.cells (yl 32 x).toArray 23)).alloc (.cells (yl 32 0).toArray 23)) = W0 at *
  refine wp_region_noPanic ?_
  refine wp_region_held_drew (S := fun w' => w'.rangeAt w.heap.size 0 (yl 32 x) ∧ w'.there (w.heap.size + 1) 0 32 ∧ Grown w w') (by kernel_rfl) ⟨h0.1, h0.2.2.1, h0.2.2.2⟩ (fun hH => ?_)
  clear h0
  refine take32 0 (x) (w.heap.size) rfl (by kernel_rfl) (by kernel_rfl) (by kernel_rfl) (fun _ _ _ h => h) (by rfl) rfl rfl (fun _ h => h.1) hH ?_
  simp only [Act.put, List.setIfInBounds_toArray, List.set_cons_zero, List.set_cons_succ]
  refine step1 1 (by kernel_rfl) rfl (fun K hK => ?_)
  go_simp
  refine Calls.mono (number_nat 1 (by decide) 1 rfl _) ?_
  rintro e w1 ⟨rfl, hg1⟩
  dsimp only
  refine hK.out _ _ (keep2 hH hg1) (fun hH => ?_)
  clear hK K
  refine step1 2 (by kernel_rfl) rfl (fun K hK => ?_)
  go_simp
  refine Calls.mono (number_nat 0 (by decide) 0 rfl _) ?_
  rintro e w2 ⟨rfl, hg2⟩
  dsimp only
  refine hK.out _ _ (keep2 hH hg2) (fun hH => ?_)
  clear hK K
  refine step1 3 (by kernel_rfl) rfl (fun K hK => ?_)
  go_simp
  refine Calls.mono (MulAdd_num x 1 0 hx (by decide) (by decide) _ (HT.out.grown hH.2.2)) ?_
  rintro e w3 ⟨rfl, hg3⟩
  dsimp only
  refine hK.out _ _ (keep2 hH hg3) (fun hH => ?_)
  clear hK K
  obtain ⟨hr1, hth, hgw⟩ := hH
  rw [es]
  refine step1 4 (by kernel_rfl) rfl (fun K hK => ?_)
  refine store32 (sred x) (w.heap.size + 1) rfl (by rfl) rfl rfl hth ?_
  simp only [Act.put]
  refine hK.out _ _ ⟨World.rangeAt_setCells_apart hr1 _ _ _ (by left; omega), World.there_setCells hth _ _ _, grown_setCells (by omega) _ _ hgw⟩ (fun _ => ?_)
  clear hK K
  refine wpAnyH_done (by kernel_rfl) ?_ _
  refine NoPanic.normal ?_
  repeat go_step
  refine bodyPost_ret (v := yv 32 (sred x)) (result32 Tryd.results23 _ _ (w.heap.size + 1) _ ?hp (World.rangeAt_setCells_same _ _ _ _ (by rw [yl_length]; exact hth))) ?hd ?_
  case hp => rfl
  case hd => rfl
  exact ⟨rfl, grown_setCells (by omega) _ _ hgw⟩

set_option maxRecDepth 100000 in
set_option maxHeartbeats 1000000 in
theorem Canonical_num (x : Nat) (hx : x < M) (w : World) (hT : Tab w) : Calls Tryd.prog 17 #[yv 32 x] w fun e w' => e = .returned (.bool (decide (x < L))) ∧ Grown w w' := by
  have h0 : (w.alloc (.cells (yl 32 x).toArray 23)).rangeAt w.heap.size 0 (yl 32 x) ∧ Grown w (w.alloc (.cells (yl 32 x).toArray 23)) := ⟨rangeAt_alloc_new w 23 (yl 32 x), Grown.alloc (Grown.refl _) _ _⟩
  have HT := Hid.of hT
  clear hT
  have ed : decide (x = x % L) = decide (x < L) := by
    apply decide_eq_decide.2
    constructor
    · intro h; rw [h]; exact modL_lt x
    · intro h; exact (Nat.mod_eq_of_lt h).symm
  rw [yv]
  go_enter Tryd.func17, Tryd.ntmps17
  go_wp2_with (with_reducible show wpList _ _ _ ({ dst := _, op := Op.load 23 _, type := _, pos := _, after := _, guard := _ } :: _) _ _; refine Shut.out ?_)
  show wpList _ _ _ _ _ _
  generalize (w.alloc (.cells (yl 32 x).toArray 23)) = W0 at *
  have H0 := Hid.of h0
  clear h0
  refine wpList_load32 rfl _ rfl w.heap.size rfl x H0.out.1 ?_
  simp only [Act.put, List.setIfInBounds_toArray, List.set_cons_zero, List.set_cons_succ]
  go_wp2_with fail
  refine Calls.mono (load_num x hx _) ?_
  rintro e w1 ⟨rfl, g1⟩
  dsimp only
  go_wp2_with (with_reducible show wpList _ _ _ ({ dst := _, op := Op.store 62 _ _, type := _, pos := _, after := _, guard := _ } :: _) _ _; refine Shut.out ?_)
  show wpList _ _ _ _ _ _
  refine wpList_store_newN x (by simp) rfl rfl rfl rfl (fun w2 hg2 hr2 ht2 => ?_)
  simp only [Act.put]
  apply wpList_nil
  have H1 := Hid.of (And.intro hr2 (grown_trans (grown_trans H0.out.2 g1) hg2))
  clear H0 g1 hg2 hr2 ht2
  generalize w1.heap.size = bx at *
  go_wp2
  refine wp_region_noPanic ?_
  refine wp_region_held_drew (S := fun w' => w'.rangeAt bx 0 (wl 4 x) ∧ Grown w w') (by kernel_rfl) H1.out (fun hH => ?_)
  refine takeN 0 x bx 0 rfl (by kernel_rfl) (by kernel_rfl) (by kernel_rfl) (fun _ _ _ h => h) (by rfl) rfl rfl (fun _ h => h.1) hH ?_
  simp only [Act.put, List.setIfInBounds_toArray, List.set_cons_zero, List.set_cons_succ]
  refine takeN 1 x bx 0 rfl (by kernel_rfl) (by kernel_rfl) (by kernel_rfl) (fun _ _ _ h => h) (by rfl) rfl rfl (fun _ h => h.1) hH ?_
  simp only [Act.put, List.setIfInBounds_toArray, List.set_cons_zero, List.set_cons_succ]
  refine step1 2 (by kernel_rfl) rfl (fun K hK => ?_)
  go_simp
  refine Calls.mono (reduced_num x hx _ (HT.out.grown hH.2)) ?_
  rintro e w3 ⟨rfl, hg3⟩
  dsimp only
  refine hK.out _ _ (⟨rangeAt_grown hH.1 hg3, grown_trans hH.2 hg3⟩) (fun hH => ?_)
  clear hK K
  refine takeV 3 (.bool (decide (x < L))) rfl (by kernel_rfl) (by kernel_rfl) (by kernel_rfl) (fun _ _ _ h => h) (by rfl) (fun w _ => by rw [← ed]; exact exec_eqlN rfl x (x % L) rfl rfl hx (modL_ltM x) w) hH ?_
  simp only [Act.put, List.setIfInBounds_toArray, List.set_cons_zero, List.set_cons_succ]
  refine takeV 4 (.bool (decide (x < L))) rfl (by kernel_rfl) (by kernel_rfl) (by kernel_rfl) (fun _ _ _ h => h) (by rfl) (fun w _ => rfl) hH ?_
  simp only [Act.put, List.setIfInBounds_toArray, List.set_cons_zero, List.set_cons_succ]
  refine wpAnyH_done (by kernel_rfl) ?_ _
  refine NoPanic.normal ?_
  repeat go_step
  go_ret
  exact ⟨rfl, hH.2⟩
theorem canon_is (x : Nat) (hx : x < M) (b : Bool) (hb : decide (x < L) = b) (w : World) (hT : Tab w) : Calls Tryd.prog 17 #[yv 32 x] w fun e w' => e = .returned (.bool b) ∧ Grown w w' := by
  rw [← hb]; exact Canonical_num x hx w hT
theorem less_is (x y : Nat) (hx : x < M) (hy : y < M) (b : Bool) (hb : decide (x < y) = b) (w : World) : Calls Tryd.prog 27 #[yv 32 x, yv 32 y] w fun e w' => e = .returned (.bool b) ∧ Grown w w' := by
  rw [← hb]; exact less_any x y hx hy w
end Go.Proofs.YteijccjdejjbjaaDoor
