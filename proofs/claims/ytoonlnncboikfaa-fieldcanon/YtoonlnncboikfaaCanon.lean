import Derived.Test.YtoonlnncboikfaaCan3
namespace Go.Proofs.Ytoonlnncboikfaa
open Go.RowKit Go.Shelf FieldNum

theorem prime_is (pp : Nat) (h : pp = p) (w : World) : Calls Try.prog 10 #[] w fun e w' => e = .returned (bv pp) ∧ Grown w w' := by
  rw [h]
  exact prime_any w

/-- what is known of the numbers -/
structure Facts (a u pp : Nat) : Prop where
  rl : decide (fred a < p) = true
  rl' : decide (fred a < pp) = true
  ea : decide (a % p = fred a % p) = true
  eo : decide (fred a % p = psum (fred a) pp % p) = true
  en : decide (a % p = fadd a u % p) = false
  fo : fred (psum (fred a) pp) = fred a

set_option maxRecDepth 100000 in
set_option maxHeartbeats 8000000 in
theorem canon_walkA (a u c0 pp : Nat) (od : Bool) (ha : a < M) (hpp : Hid (pp = p)) (hppM : pp < M) (hu : Hid (u = 1)) (huM : u < M) (hc0 : c0 < 256) (hcell : ∀ (wr : World) {b : Nat}, wr.rangeAt b 0 (bl (fred a)) → wr.cell? ⟨b, 0, none⟩ = some (.int .u8 (c0 : Int)))
    (hod : Hid (decide (c0 % 2 = 1) = od)) (hoa : Hid (decide (a % p % 2 = 1) = od)) (F : Facts a u pp) (hlt : Hid (decide (a < p) = true)) (hlt2 : Hid (decide (a < pp) = true)) (h1 : Hid (a = fred a)) (w : World) :
    Calls Try.prog 4 #[bv a] w fun e w' => e = .returned (.bool true) ∧ Grown w w' := by
  rw [bv]
  go_enter Try.func4, Try.ntmps4
  go_wp2_with fail
  obtain ⟨hE0, hW0⟩ := params1 w a
  generalize (w.alloc (Obj.cells (bl a).toArray 22)) = W0 at hE0 hW0 ⊢
  refine Calls.mono (prime_is pp hpp.out _) ?_
  rintro e w0 ⟨rfl, hg0⟩
  dsimp only
  go_step
  have hE00 := hE0.grown hg0
  have hW00 := grown_trans hW0 hg0
  clear hE0 hW0 hg0
  go_wp2_with (with_reducible show wpList _ _ _ ({ dst := _, op := Op.store 22 _ _, type := _, pos := _, after := _, guard := _ } :: _) _ _; refine Shut.out ?_)
  show wpList _ _ _ _ _ _
  refine wpList_store_new (pp) (by simp) rfl rfl rfl rfl (fun w1 hg1 hr1 _ => ?_)
  simp only [Act.put]
  have hE1 := (hE00.grown hg1).cons hr1
  have hW1 := grown_trans hW00 hg1
  clear hE00 hW00 hg1 hr1
  apply wpList_nil
  repeat ((fail_if_success (with_reducible show Code.wp _ (Code.region _ _ _) _ _ _)); go_step)
  apply wp_region_lit
  refine wpList_load32 rfl _ rfl _ rfl (a) (hE1 (w.heap.size, a) (.tail _ (.head _))) ?_
  simp only [Act.put, List.setIfInBounds_toArray, List.set_cons_zero, List.set_cons_succ]
  go_wp2_with fail
  refine Calls.mono (Reduce_f (a) ha _) ?_
  rintro e w2 ⟨rfl, hg2⟩
  dsimp only
  go_step
  have hE2 := hE1.grown hg2
  have hW2 := grown_trans hW1 hg2
  clear hE1 hW1 hg2
  go_wp2_with (with_reducible show wpList _ _ _ ({ dst := _, op := Op.store 22 _ _, type := _, pos := _, after := _, guard := _ } :: _) _ _; refine Shut.out ?_)
  show wpList _ _ _ _ _ _
  refine wpList_store_new (fred (a)) (by simp) rfl rfl rfl rfl (fun w3 hg3 hr3 _ => ?_)
  simp only [Act.put]
  have hE3 := (hE2.grown hg3).cons hr3
  have hW3 := grown_trans hW2 hg3
  clear hE2 hW2 hg3 hr3
  apply wpList_nil
  repeat ((fail_if_success (with_reducible show Code.wp _ (Code.region _ _ _) _ _ _)); go_step)
  refine wp_region_noPanic ?_
  refine wp_region_held_drew (S := fun w' => Holds [(w2.heap.size, fred (a)), (w0.heap.size, pp), (w.heap.size, a)] w' ∧ Grown w w') (by kernel_rfl) ⟨hE3, hW3⟩ (fun hH4 => ?_)
  clear hE3 hW3
  refine take32 0 (fred (a)) (w2.heap.size) rfl (by kernel_rfl) (by kernel_rfl) (by kernel_rfl) (fun _ _ _ h => h) (by rfl) rfl rfl (fun _ h => h.1 (w2.heap.size, fred (a)) (.head _)) hH4 ?_
  simp only [Act.put, List.setIfInBounds_toArray, List.set_cons_zero, List.set_cons_succ]
  refine take32 1 (pp) (w0.heap.size) rfl (by kernel_rfl) (by kernel_rfl) (by kernel_rfl) (fun _ _ _ h => h) (by rfl) rfl rfl (fun _ h => h.1 (w0.heap.size, pp) (.tail _ (.head _))) hH4 ?_
  simp only [Act.put, List.setIfInBounds_toArray, List.set_cons_zero, List.set_cons_succ]
  refine step1 2 (by kernel_rfl) rfl (fun K hK => ?_)
  rw [if_pos (by rfl)]
  go_simp
  refine Calls.mono (less_is (fred (a)) (pp) (fred_lt _) hppM true (F.rl') _) ?_
  rintro e w5 ⟨rfl, hg5⟩
  dsimp only
  refine hK.out _ _ (keepE hH4 hg5) (fun hH5 => ?_)
  clear hK K
  clear hH4
  clear hg5
  refine takeV 3 (.bool false) rfl (by kernel_rfl) (by kernel_rfl) (by kernel_rfl) (fun _ _ _ h => h) (by rfl) (fun w _ => by first | rfl | go_simp) hH5 ?_
  simp only [Act.put, List.setIfInBounds_toArray, List.set_cons_zero, List.set_cons_succ]
  refine takeV 4 (.bool false) rfl (by kernel_rfl) (by kernel_rfl) (by kernel_rfl) (fun _ _ _ h => h) (by rfl) (fun w _ => rfl) hH5 ?_
  simp only [Act.put, List.setIfInBounds_toArray, List.set_cons_zero, List.set_cons_succ]
  refine take32 5 (a) (w.heap.size) rfl (by kernel_rfl) (by kernel_rfl) (by kernel_rfl) (fun _ _ _ h => h) (by rfl) rfl rfl (fun _ h => h.1 (w.heap.size, a) (.tail _ (.tail _ (.head _)))) hH5 ?_
  simp only [Act.put, List.setIfInBounds_toArray, List.set_cons_zero, List.set_cons_succ]
  refine take32 7 (a) (w.heap.size) rfl (by kernel_rfl) (by kernel_rfl) (by kernel_rfl) (fun _ _ _ h => h) (by rfl) rfl rfl (fun _ h => h.1 (w.heap.size, a) (.tail _ (.tail _ (.head _)))) hH5 ?_
  simp only [Act.put, List.setIfInBounds_toArray, List.set_cons_zero, List.set_cons_succ]
  refine take32 8 (pp) (w0.heap.size) rfl (by kernel_rfl) (by kernel_rfl) (by kernel_rfl) (fun _ _ _ h => h) (by rfl) rfl rfl (fun _ h => h.1 (w0.heap.size, pp) (.tail _ (.head _))) hH5 ?_
  simp only [Act.put, List.setIfInBounds_toArray, List.set_cons_zero, List.set_cons_succ]
  refine step1 6 (by kernel_rfl) rfl (fun K hK => ?_)
  rw [if_pos (by rfl)]
  go_simp
  refine Calls.mono (canon_is (a) ha true (hlt.out) _) ?_
  rintro e w6 ⟨rfl, hg6⟩
  dsimp only
  refine hK.out _ _ (keepE hH5 hg6) (fun hH6 => ?_)
  clear hK K
  clear hH5
  clear hg6
  refine step1 9 (by kernel_rfl) rfl (fun K hK => ?_)
  rw [if_pos (by rfl)]
  go_simp
  refine Calls.mono (less_is (a) (pp) ha hppM true (hlt2.out) _) ?_
  rintro e w7 ⟨rfl, hg7⟩
  dsimp only
  refine hK.out _ _ (keepE hH6 hg7) (fun hH7 => ?_)
  clear hK K
  clear hH6
  clear hg7
  refine takeV 10 (.bool false) rfl (by kernel_rfl) (by kernel_rfl) (by kernel_rfl) (fun _ _ _ h => h) (by rfl) (fun w _ => by first | rfl | go_simp) hH7 ?_
  simp only [Act.put, List.setIfInBounds_toArray, List.set_cons_zero, List.set_cons_succ]
  refine takeV 11 (.bool false) rfl (by kernel_rfl) (by kernel_rfl) (by kernel_rfl) (fun _ _ _ h => h) (by rfl) (fun w _ => rfl) hH7 ?_
  simp only [Act.put, List.setIfInBounds_toArray, List.set_cons_zero, List.set_cons_succ]
  refine takeV 12 (.bool false) rfl (by kernel_rfl) (by kernel_rfl) (by kernel_rfl) (fun _ _ _ h => h) (by rfl) (fun w _ => rfl) hH7 ?_
  simp only [Act.put, List.setIfInBounds_toArray, List.set_cons_zero, List.set_cons_succ]
  refine take32 13 (fred (a)) (w2.heap.size) rfl (by kernel_rfl) (by kernel_rfl) (by kernel_rfl) (fun _ _ _ h => h) (by rfl) rfl rfl (fun _ h => h.1 (w2.heap.size, fred (a)) (.head _)) hH7 ?_
  simp only [Act.put, List.setIfInBounds_toArray, List.set_cons_zero, List.set_cons_succ]
  refine step1 14 (by kernel_rfl) rfl (fun K hK => ?_)
  rw [if_pos (by rfl)]
  go_simp
  refine Calls.mono (canon_is (fred (a)) (fred_lt _) true (F.rl) _) ?_
  rintro e w8 ⟨rfl, hg8⟩
  dsimp only
  refine hK.out _ _ (keepE hH7 hg8) (fun hH8 => ?_)
  clear hK K
  clear hH7
  clear hg8
  refine takeV 15 (.bool false) rfl (by kernel_rfl) (by kernel_rfl) (by kernel_rfl) (fun _ _ _ h => h) (by rfl) (fun w _ => by first | rfl | go_simp) hH8 ?_
  simp only [Act.put, List.setIfInBounds_toArray, List.set_cons_zero, List.set_cons_succ]
  refine takeV 16 (.bool false) rfl (by kernel_rfl) (by kernel_rfl) (by kernel_rfl) (fun _ _ _ h => h) (by rfl) (fun w _ => rfl) hH8 ?_
  simp only [Act.put, List.setIfInBounds_toArray, List.set_cons_zero, List.set_cons_succ]
  refine wpAnyH_done (by kernel_rfl) ?_ _
  refine NoPanic.normal ?_
  obtain ⟨hE9, hW9⟩ := hH8
  repeat ((fail_if_success (with_reducible show Code.wp _ (Code.region _ _ _) _ _ _)); go_step)
  apply wp_region_lit
  refine wpList_load32 rfl _ rfl _ rfl (fred (a)) (hE9 (w2.heap.size, fred (a)) (.head _)) ?_
  simp only [Act.put, List.setIfInBounds_toArray, List.set_cons_zero, List.set_cons_succ]
  refine wpList_load32 rfl _ rfl _ rfl (pp) (hE9 (w0.heap.size, pp) (.tail _ (.head _))) ?_
  simp only [Act.put, List.setIfInBounds_toArray, List.set_cons_zero, List.set_cons_succ]
  go_wp2_with fail
  refine Calls.mono (lawplus_f (fred (a)) (pp) _) ?_
  rintro e w10 ⟨⟨cc10, rfl⟩, hg10⟩
  dsimp only
  go_step
  have hE10 := hE9.grown hg10
  have hW10 := grown_trans hW9 hg10
  clear hE9 hW9 hg10
  refine wpList_val (.tuple #[bv (psum (fred (a)) (pp)), .int .i64 cc10]) rfl rfl ?_
  simp only [Act.put, List.setIfInBounds_toArray, List.set_cons_zero, List.set_cons_succ]
  refine wpList_val (bv (psum (fred (a)) (pp))) rfl rfl ?_
  simp only [Act.put, List.setIfInBounds_toArray, List.set_cons_zero, List.set_cons_succ]
  refine wpList_val (.int .i64 cc10) rfl rfl ?_
  simp only [Act.put, List.setIfInBounds_toArray, List.set_cons_zero, List.set_cons_succ]
  go_wp2_with (with_reducible show wpList _ _ _ ({ dst := _, op := Op.store 22 _ _, type := _, pos := _, after := _, guard := _ } :: _) _ _; refine Shut.out ?_)
  show wpList _ _ _ _ _ _
  refine wpList_store_new (psum (fred (a)) (pp)) (by simp) rfl rfl rfl rfl (fun w11 hg11 hr11 _ => ?_)
  simp only [Act.put]
  have hE11 := (hE10.grown hg11).cons hr11
  have hW11 := grown_trans hW10 hg11
  clear hE10 hW10 hg11 hr11
  refine wpList_val (.int .i64 (cc10)) rfl rfl ?_
  simp only [Act.put, List.setIfInBounds_toArray, List.set_cons_zero, List.set_cons_succ]
  apply wpList_nil
  repeat ((fail_if_success (with_reducible show Code.wp _ (Code.region _ _ _) _ _ _)); go_step)
  apply wp_region_lit
  refine wpList_load32 rfl _ rfl _ rfl (psum (fred (a)) (pp)) (hE11 (w10.heap.size, psum (fred (a)) (pp)) (.head _)) ?_
  simp only [Act.put, List.setIfInBounds_toArray, List.set_cons_zero, List.set_cons_succ]
  refine wpList_load32 rfl _ rfl _ rfl (pp) (hE11 (w0.heap.size, pp) (.tail _ (.tail _ (.head _)))) ?_
  simp only [Act.put, List.setIfInBounds_toArray, List.set_cons_zero, List.set_cons_succ]
  go_wp2_with fail
  refine Calls.mono (lawplus_f (psum (fred (a)) (pp)) (pp) _) ?_
  rintro e w12 ⟨⟨cc12, rfl⟩, hg12⟩
  dsimp only
  go_step
  have hE12 := hE11.grown hg12
  have hW12 := grown_trans hW11 hg12
  clear hE11 hW11 hg12
  refine wpList_val (.tuple #[bv (psum (psum (fred (a)) (pp)) (pp)), .int .i64 cc12]) rfl rfl ?_
  simp only [Act.put, List.setIfInBounds_toArray, List.set_cons_zero, List.set_cons_succ]
  refine wpList_val (bv (psum (psum (fred (a)) (pp)) (pp))) rfl rfl ?_
  simp only [Act.put, List.setIfInBounds_toArray, List.set_cons_zero, List.set_cons_succ]
  refine wpList_val (.int .i64 cc12) rfl rfl ?_
  simp only [Act.put, List.setIfInBounds_toArray, List.set_cons_zero, List.set_cons_succ]
  go_wp2_with (with_reducible show wpList _ _ _ ({ dst := _, op := Op.store 22 _ _, type := _, pos := _, after := _, guard := _ } :: _) _ _; refine Shut.out ?_)
  show wpList _ _ _ _ _ _
  refine wpList_store_new (psum (psum (fred (a)) (pp)) (pp)) (by simp) rfl rfl rfl rfl (fun w13 hg13 hr13 _ => ?_)
  simp only [Act.put]
  have hE13 := (hE12.grown hg13).cons hr13
  have hW13 := grown_trans hW12 hg13
  clear hE12 hW12 hg13 hr13
  refine wpList_val (.int .i64 (cc12)) rfl rfl ?_
  simp only [Act.put, List.setIfInBounds_toArray, List.set_cons_zero, List.set_cons_succ]
  apply wpList_nil
  repeat ((fail_if_success (with_reducible show Code.wp _ (Code.region _ _ _) _ _ _)); go_step)
  apply wp_region_lit
  refine wpList_load32 rfl _ rfl _ rfl (a) (hE13 (w.heap.size, a) (.tail _ (.tail _ (.tail _ (.tail _ (.head _)))))) ?_
  simp only [Act.put, List.setIfInBounds_toArray, List.set_cons_zero, List.set_cons_succ]
  refine wpList_load32 rfl _ rfl _ rfl (fred (a)) (hE13 (w2.heap.size, fred (a)) (.tail _ (.tail _ (.head _)))) ?_
  simp only [Act.put, List.setIfInBounds_toArray, List.set_cons_zero, List.set_cons_succ]
  refine wpList_val (.bool false) rfl (exec_neq_same rfl (a) (fred (a)) rfl rfl ha (fred_lt _) (h1.out) _) ?_
  simp only [Act.put, List.setIfInBounds_toArray, List.set_cons_zero, List.set_cons_succ]
  refine wpList_val (.bool false) rfl rfl ?_
  simp only [Act.put, List.setIfInBounds_toArray, List.set_cons_zero, List.set_cons_succ]
  refine wpList_skipU (by rfl) ?_
  simp only [Act.put, List.setIfInBounds_toArray, List.set_cons_zero, List.set_cons_succ]
  refine wpList_skipU (by rfl) ?_
  simp only [Act.put, List.setIfInBounds_toArray, List.set_cons_zero, List.set_cons_succ]
  refine wpList_skipU (by rfl) ?_
  simp only [Act.put, List.setIfInBounds_toArray, List.set_cons_zero, List.set_cons_succ]
  refine wpList_val (.bool false) rfl rfl ?_
  simp only [Act.put, List.setIfInBounds_toArray, List.set_cons_zero, List.set_cons_succ]
  refine wpList_val (.bool false) rfl rfl ?_
  simp only [Act.put, List.setIfInBounds_toArray, List.set_cons_zero, List.set_cons_succ]
  refine wpList_skipU (by rfl) ?_
  simp only [Act.put, List.setIfInBounds_toArray, List.set_cons_zero, List.set_cons_succ]
  refine wpList_skipU (by rfl) ?_
  simp only [Act.put, List.setIfInBounds_toArray, List.set_cons_zero, List.set_cons_succ]
  refine wpList_skipU (by rfl) ?_
  simp only [Act.put, List.setIfInBounds_toArray, List.set_cons_zero, List.set_cons_succ]
  refine wpList_val (.bool false) rfl rfl ?_
  simp only [Act.put, List.setIfInBounds_toArray, List.set_cons_zero, List.set_cons_succ]
  apply wpList_nil
  repeat ((fail_if_success (with_reducible show Code.wp _ (Code.region _ _ _) _ _ _)); go_step)
  refine wp_region_noPanic ?_
  refine wp_region_held_drew (S := fun w' => Holds [(w12.heap.size, psum (psum (fred (a)) (pp)) (pp)), (w10.heap.size, psum (fred (a)) (pp)), (w2.heap.size, fred (a)), (w0.heap.size, pp), (w.heap.size, a)] w' ∧ Grown w w') (by kernel_rfl) ⟨hE13, hW13⟩ (fun hH14 => ?_)
  clear hE13 hW13
  refine take32 0 (a) (w.heap.size) rfl (by kernel_rfl) (by kernel_rfl) (by kernel_rfl) (fun _ _ _ h => h) (by rfl) rfl rfl (fun _ h => h.1 (w.heap.size, a) (.tail _ (.tail _ (.tail _ (.tail _ (.head _)))))) hH14 ?_
  simp only [Act.put, List.setIfInBounds_toArray, List.set_cons_zero, List.set_cons_succ]
  refine step2 1 3 (by kernel_rfl) rfl rfl (fun K hK => ?_) (fun K hK => ?_)
  · -- operation 1 first
    rw [if_pos (by rfl)]
    go_simp
    refine Calls.mono (number_nat u (by rw [hu.out]; decide) 1 (by rw [hu.out]; rfl) _) ?_
    rintro e w15 ⟨rfl, hg15⟩
    dsimp only
    refine hK.out _ _ (keepE hH14 hg15) (fun hH15 => ?_)
    clear hK K
    clear hH14
    clear hg15
    refine step2 2 3 (by kernel_rfl) rfl rfl (fun K hK => ?_) (fun K hK => ?_)
    · -- operation 2 first
      rw [if_pos (by rfl)]
      go_simp
      refine Calls.mono (Add_f (a) (u) ha huM _) ?_
      rintro e w16 ⟨rfl, hg16⟩
      dsimp only
      refine hK.out _ _ (keepE hH15 hg16) (fun hH16 => ?_)
      clear hK K
      clear hH15
      clear hg16
      refine step1 3 (by kernel_rfl) rfl (fun K hK => ?_)
      refine alloc_op rfl (by rfl) (fun w17 hA17 ht17 => ?_)
      simp only [Act.put, List.setIfInBounds_toArray, List.set_cons_zero, List.set_cons_succ]
      refine hK.out _ _ (keepE hH16 hA17) (fun hH17 => ?_)
      clear hK K
      refine step1 4 (by kernel_rfl) rfl (fun K hK => ?_)
      refine store_op (fadd (a) (u)) rfl (by rfl) rfl rfl ht17 hA17 (fun w18 hG18 hr18 => ?_)
      simp only [Act.put]
      refine hK.out _ _ (keepE hH16 hG18) (fun hH18 => ?_)
      clear hK K
      clear hH16 hH17 hG18 hA17 ht17
      refine wpAnyH_done (by kernel_rfl) ?_ _
      refine NoPanic.normal ?_
      obtain ⟨hE19, hW19⟩ := hH18
      have hE20 := hE19.cons hr18
      repeat ((fail_if_success (with_reducible show Code.wp _ (Code.region _ _ _) _ _ _)); go_step)
      refine wp_region_noPanic ?_
      refine wp_region_held_drew (S := fun w' => Holds [(w16.heap.size, fadd (a) (u)), (w12.heap.size, psum (psum (fred (a)) (pp)) (pp)), (w10.heap.size, psum (fred (a)) (pp)), (w2.heap.size, fred (a)), (w0.heap.size, pp), (w.heap.size, a)] w' ∧ Grown w w') (by kernel_rfl) ⟨hE20, hW19⟩ (fun hH21 => ?_)
      clear hE20 hW19
      refine take32 0 (a) (w.heap.size) rfl (by kernel_rfl) (by kernel_rfl) (by kernel_rfl) (fun _ _ _ h => h) (by rfl) rfl rfl (fun _ h => h.1 (w.heap.size, a) (.tail _ (.tail _ (.tail _ (.tail _ (.tail _ (.head _))))))) hH21 ?_
      simp only [Act.put, List.setIfInBounds_toArray, List.set_cons_zero, List.set_cons_succ]
      refine takeV 2 (.pointer (some ⟨w2.heap.size, 0, none⟩)) rfl (by kernel_rfl) (by kernel_rfl) (by kernel_rfl) (fun _ _ _ h => h) (by rfl) (fun w _ => by go_simp) hH21 ?_
      simp only [Act.put, List.setIfInBounds_toArray, List.set_cons_zero, List.set_cons_succ]
      refine takeV 3 (.int .u8 c0) rfl (by kernel_rfl) (by kernel_rfl) (by kernel_rfl) (fun _ _ _ h => h) (by rfl) (fun w h => by have hcc := hcell _ (h.1 (w2.heap.size, fred (a)) (.tail _ (.tail _ (.tail _ (.head _))))); go_simp) hH21 ?_
      simp only [Act.put, List.setIfInBounds_toArray, List.set_cons_zero, List.set_cons_succ]
      refine takeV 4 (.int .u8 ((c0 % 2 : Nat) : Int)) rfl (by kernel_rfl) (by kernel_rfl) (by kernel_rfl) (fun _ _ _ h => h) (by rfl) (fun w _ => exec_rem8 rfl c0 hc0 rfl rfl) hH21 ?_
      simp only [Act.put, List.setIfInBounds_toArray, List.set_cons_zero, List.set_cons_succ]
      refine takeV 5 (.bool od) rfl (by kernel_rfl) (by kernel_rfl) (by kernel_rfl) (fun _ _ _ h => h) (by rfl) (fun w _ => exec_eql8 rfl (c0 % 2) rfl rfl od hod.out) hH21 ?_
      simp only [Act.put, List.setIfInBounds_toArray, List.set_cons_zero, List.set_cons_succ]
      refine step1 1 (by kernel_rfl) rfl (fun K hK => ?_)
      rw [if_pos (by rfl)]
      go_simp
      refine Calls.mono (odd_is (a) ha od (hoa.out) _) ?_
      rintro e w22 ⟨rfl, hg22⟩
      dsimp only
      refine hK.out _ _ (keepE hH21 hg22) (fun hH22 => ?_)
      clear hK K
      clear hH21
      clear hg22
      refine takeV 6 (.bool false) rfl (by kernel_rfl) (by kernel_rfl) (by kernel_rfl) (fun _ _ _ h => h) (by rfl) (fun w _ => by cases od <;> rfl) hH22 ?_
      simp only [Act.put, List.setIfInBounds_toArray, List.set_cons_zero, List.set_cons_succ]
      refine takeV 7 (.bool false) rfl (by kernel_rfl) (by kernel_rfl) (by kernel_rfl) (fun _ _ _ h => h) (by rfl) (fun w _ => rfl) hH22 ?_
      simp only [Act.put, List.setIfInBounds_toArray, List.set_cons_zero, List.set_cons_succ]
      refine take32 8 (a) (w.heap.size) rfl (by kernel_rfl) (by kernel_rfl) (by kernel_rfl) (fun _ _ _ h => h) (by rfl) rfl rfl (fun _ h => h.1 (w.heap.size, a) (.tail _ (.tail _ (.tail _ (.tail _ (.tail _ (.head _))))))) hH22 ?_
      simp only [Act.put, List.setIfInBounds_toArray, List.set_cons_zero, List.set_cons_succ]
      refine take32 9 (fred (a)) (w2.heap.size) rfl (by kernel_rfl) (by kernel_rfl) (by kernel_rfl) (fun _ _ _ h => h) (by rfl) rfl rfl (fun _ h => h.1 (w2.heap.size, fred (a)) (.tail _ (.tail _ (.tail _ (.head _))))) hH22 ?_
      simp only [Act.put, List.setIfInBounds_toArray, List.set_cons_zero, List.set_cons_succ]
      refine step1 10 (by kernel_rfl) rfl (fun K hK => ?_)
      rw [if_pos (by rfl)]
      go_simp
      refine Calls.mono (equal_is (a) (fred (a)) ha (fred_lt _) true (F.ea) _) ?_
      rintro e w23 ⟨rfl, hg23⟩
      dsimp only
      refine hK.out _ _ (keepE hH22 hg23) (fun hH23 => ?_)
      clear hK K
      clear hH22
      clear hg23
      refine takeV 11 (.bool false) rfl (by kernel_rfl) (by kernel_rfl) (by kernel_rfl) (fun _ _ _ h => h) (by rfl) (fun w _ => by first | rfl | go_simp) hH23 ?_
      simp only [Act.put, List.setIfInBounds_toArray, List.set_cons_zero, List.set_cons_succ]
      refine takeV 12 (.bool false) rfl (by kernel_rfl) (by kernel_rfl) (by kernel_rfl) (fun _ _ _ h => h) (by rfl) (fun w _ => rfl) hH23 ?_
      simp only [Act.put, List.setIfInBounds_toArray, List.set_cons_zero, List.set_cons_succ]
      refine takeV 13 (.bool false) rfl (by kernel_rfl) (by kernel_rfl) (by kernel_rfl) (fun _ _ _ h => h) (by rfl) (fun w _ => rfl) hH23 ?_
      simp only [Act.put, List.setIfInBounds_toArray, List.set_cons_zero, List.set_cons_succ]
      refine take32 14 (fred (a)) (w2.heap.size) rfl (by kernel_rfl) (by kernel_rfl) (by kernel_rfl) (fun _ _ _ h => h) (by rfl) rfl rfl (fun _ h => h.1 (w2.heap.size, fred (a)) (.tail _ (.tail _ (.tail _ (.head _))))) hH23 ?_
      simp only [Act.put, List.setIfInBounds_toArray, List.set_cons_zero, List.set_cons_succ]
      refine take32 15 (psum (fred (a)) (pp)) (w10.heap.size) rfl (by kernel_rfl) (by kernel_rfl) (by kernel_rfl) (fun _ _ _ h => h) (by rfl) rfl rfl (fun _ h => h.1 (w10.heap.size, psum (fred (a)) (pp)) (.tail _ (.tail _ (.head _)))) hH23 ?_
      simp only [Act.put, List.setIfInBounds_toArray, List.set_cons_zero, List.set_cons_succ]
      refine step1 16 (by kernel_rfl) rfl (fun K hK => ?_)
      rw [if_pos (by rfl)]
      go_simp
      refine Calls.mono (equal_is (fred (a)) (psum (fred (a)) (pp)) (fred_lt _) (psum_lt _ _) true (F.eo) _) ?_
      rintro e w24 ⟨rfl, hg24⟩
      dsimp only
      refine hK.out _ _ (keepE hH23 hg24) (fun hH24 => ?_)
      clear hK K
      clear hH23
      clear hg24
      refine takeV 17 (.bool false) rfl (by kernel_rfl) (by kernel_rfl) (by kernel_rfl) (fun _ _ _ h => h) (by rfl) (fun w _ => by first | rfl | go_simp) hH24 ?_
      simp only [Act.put, List.setIfInBounds_toArray, List.set_cons_zero, List.set_cons_succ]
      refine takeV 18 (.bool false) rfl (by kernel_rfl) (by kernel_rfl) (by kernel_rfl) (fun _ _ _ h => h) (by rfl) (fun w _ => rfl) hH24 ?_
      simp only [Act.put, List.setIfInBounds_toArray, List.set_cons_zero, List.set_cons_succ]
      refine takeV 19 (.bool false) rfl (by kernel_rfl) (by kernel_rfl) (by kernel_rfl) (fun _ _ _ h => h) (by rfl) (fun w _ => rfl) hH24 ?_
      simp only [Act.put, List.setIfInBounds_toArray, List.set_cons_zero, List.set_cons_succ]
      refine take32 20 (a) (w.heap.size) rfl (by kernel_rfl) (by kernel_rfl) (by kernel_rfl) (fun _ _ _ h => h) (by rfl) rfl rfl (fun _ h => h.1 (w.heap.size, a) (.tail _ (.tail _ (.tail _ (.tail _ (.tail _ (.head _))))))) hH24 ?_
      simp only [Act.put, List.setIfInBounds_toArray, List.set_cons_zero, List.set_cons_succ]
      refine take32 21 (fadd (a) (u)) (w16.heap.size) rfl (by kernel_rfl) (by kernel_rfl) (by kernel_rfl) (fun _ _ _ h => h) (by rfl) rfl rfl (fun _ h => h.1 (w16.heap.size, fadd (a) (u)) (.head _)) hH24 ?_
      simp only [Act.put, List.setIfInBounds_toArray, List.set_cons_zero, List.set_cons_succ]
      refine step1 22 (by kernel_rfl) rfl (fun K hK => ?_)
      rw [if_pos (by rfl)]
      go_simp
      refine Calls.mono (equal_is (a) (fadd (a) (u)) ha (fadd_lt _ _) false (F.en) _) ?_
      rintro e w25 ⟨rfl, hg25⟩
      dsimp only
      refine hK.out _ _ (keepE hH24 hg25) (fun hH25 => ?_)
      clear hK K
      clear hH24
      clear hg25
      refine takeV 23 (.bool false) rfl (by kernel_rfl) (by kernel_rfl) (by kernel_rfl) (fun _ _ _ h => h) (by rfl) (fun w _ => rfl) hH25 ?_
      simp only [Act.put, List.setIfInBounds_toArray, List.set_cons_zero, List.set_cons_succ]
      refine wpAnyH_done (by kernel_rfl) ?_ _
      refine NoPanic.normal ?_
      obtain ⟨hE26, hW26⟩ := hH25
      repeat ((fail_if_success (with_reducible show Code.wp _ (Code.region _ _ _) _ _ _)); go_step)
      refine wp_region_noPanic ?_
      refine wp_region_held_drew (S := fun w' => Holds [(w16.heap.size, fadd (a) (u)), (w12.heap.size, psum (psum (fred (a)) (pp)) (pp)), (w10.heap.size, psum (fred (a)) (pp)), (w2.heap.size, fred (a)), (w0.heap.size, pp), (w.heap.size, a)] w' ∧ Grown w w') (by kernel_rfl) ⟨hE26, hW26⟩ (fun hH27 => ?_)
      clear hE26 hW26
      refine take32 0 (psum (fred (a)) (pp)) (w10.heap.size) rfl (by kernel_rfl) (by kernel_rfl) (by kernel_rfl) (fun _ _ _ h => h) (by rfl) rfl rfl (fun _ h => h.1 (w10.heap.size, psum (fred (a)) (pp)) (.tail _ (.tail _ (.head _)))) hH27 ?_
      simp only [Act.put, List.setIfInBounds_toArray, List.set_cons_zero, List.set_cons_succ]
      refine take32 2 (fred (a)) (w2.heap.size) rfl (by kernel_rfl) (by kernel_rfl) (by kernel_rfl) (fun _ _ _ h => h) (by rfl) rfl rfl (fun _ h => h.1 (w2.heap.size, fred (a)) (.tail _ (.tail _ (.tail _ (.head _))))) hH27 ?_
      simp only [Act.put, List.setIfInBounds_toArray, List.set_cons_zero, List.set_cons_succ]
      refine step1 1 (by kernel_rfl) rfl (fun K hK => ?_)
      rw [if_pos (by rfl)]
      go_simp
      refine Calls.mono (Reduce_f (psum (fred (a)) (pp)) (psum_lt _ _) _) ?_
      rintro e w28 ⟨rfl, hg28⟩
      dsimp only
      refine hK.out _ _ (keepE hH27 hg28) (fun hH28 => ?_)
      clear hK K
      clear hH27
      clear hg28
      refine takeV 3 (.bool true) rfl (by kernel_rfl) (by kernel_rfl) (by kernel_rfl) (fun _ _ _ h => h) (by rfl) (fun w _ => exec_eql_same rfl (fred (psum (fred (a)) (pp))) (fred (a)) rfl rfl (fred_lt _) (fred_lt _) (F.fo) w) hH28 ?_
      simp only [Act.put, List.setIfInBounds_toArray, List.set_cons_zero, List.set_cons_succ]
      refine takeV 4 (.bool true) rfl (by kernel_rfl) (by kernel_rfl) (by kernel_rfl) (fun _ _ _ h => h) (by rfl) (fun w _ => rfl) hH28 ?_
      simp only [Act.put, List.setIfInBounds_toArray, List.set_cons_zero, List.set_cons_succ]
      refine wpAnyH_done (by kernel_rfl) ?_ _
      refine NoPanic.normal ?_
      obtain ⟨hE29, hW29⟩ := hH28
      repeat go_step
      go_ret
      exact ⟨rfl, by first | assumption | exact hW29⟩
    · -- operation 3 first
      refine alloc_op rfl (by rfl) (fun w30 hA30 ht30 => ?_)
      simp only [Act.put, List.setIfInBounds_toArray, List.set_cons_zero, List.set_cons_succ]
      refine hK.out _ _ (keepE hH15 hA30) (fun hH30 => ?_)
      clear hK K
      refine step1 2 (by kernel_rfl) rfl (fun K hK => ?_)
      rw [if_pos (by rfl)]
      go_simp
      refine Calls.mono (Add_f (a) (u) ha huM _) ?_
      rintro e w31 ⟨rfl, hg31⟩
      dsimp only
      refine hK.out _ _ (keepE hH30 hg31) (fun hH31 => ?_)
      clear hK K
      have hA31 := grown_trans hA30 hg31
      have ht31 := there_grown ht30 hg31
      clear hA30 ht30
      clear hH30
      clear hg31
      refine step1 4 (by kernel_rfl) rfl (fun K hK => ?_)
      refine store_op (fadd (a) (u)) rfl (by rfl) rfl rfl ht31 hA31 (fun w32 hG32 hr32 => ?_)
      simp only [Act.put]
      refine hK.out _ _ (keepE hH15 hG32) (fun hH32 => ?_)
      clear hK K
      clear hH15 hH31 hG32 hA31 ht31
      refine wpAnyH_done (by kernel_rfl) ?_ _
      refine NoPanic.normal ?_
      obtain ⟨hE33, hW33⟩ := hH32
      have hE34 := hE33.cons hr32
      repeat ((fail_if_success (with_reducible show Code.wp _ (Code.region _ _ _) _ _ _)); go_step)
      refine wp_region_noPanic ?_
      refine wp_region_held_drew (S := fun w' => Holds [(w15.heap.size, fadd (a) (u)), (w12.heap.size, psum (psum (fred (a)) (pp)) (pp)), (w10.heap.size, psum (fred (a)) (pp)), (w2.heap.size, fred (a)), (w0.heap.size, pp), (w.heap.size, a)] w' ∧ Grown w w') (by kernel_rfl) ⟨hE34, hW33⟩ (fun hH35 => ?_)
      clear hE34 hW33
      refine take32 0 (a) (w.heap.size) rfl (by kernel_rfl) (by kernel_rfl) (by kernel_rfl) (fun _ _ _ h => h) (by rfl) rfl rfl (fun _ h => h.1 (w.heap.size, a) (.tail _ (.tail _ (.tail _ (.tail _ (.tail _ (.head _))))))) hH35 ?_
      simp only [Act.put, List.setIfInBounds_toArray, List.set_cons_zero, List.set_cons_succ]
      refine takeV 2 (.pointer (some ⟨w2.heap.size, 0, none⟩)) rfl (by kernel_rfl) (by kernel_rfl) (by kernel_rfl) (fun _ _ _ h => h) (by rfl) (fun w _ => by go_simp) hH35 ?_
      simp only [Act.put, List.setIfInBounds_toArray, List.set_cons_zero, List.set_cons_succ]
      refine takeV 3 (.int .u8 c0) rfl (by kernel_rfl) (by kernel_rfl) (by kernel_rfl) (fun _ _ _ h => h) (by rfl) (fun w h => by have hcc := hcell _ (h.1 (w2.heap.size, fred (a)) (.tail _ (.tail _ (.tail _ (.head _))))); go_simp) hH35 ?_
      simp only [Act.put, List.setIfInBounds_toArray, List.set_cons_zero, List.set_cons_succ]
      refine takeV 4 (.int .u8 ((c0 % 2 : Nat) : Int)) rfl (by kernel_rfl) (by kernel_rfl) (by kernel_rfl) (fun _ _ _ h => h) (by rfl) (fun w _ => exec_rem8 rfl c0 hc0 rfl rfl) hH35 ?_
      simp only [Act.put, List.setIfInBounds_toArray, List.set_cons_zero, List.set_cons_succ]
      refine takeV 5 (.bool od) rfl (by kernel_rfl) (by kernel_rfl) (by kernel_rfl) (fun _ _ _ h => h) (by rfl) (fun w _ => exec_eql8 rfl (c0 % 2) rfl rfl od hod.out) hH35 ?_
      simp only [Act.put, List.setIfInBounds_toArray, List.set_cons_zero, List.set_cons_succ]
      refine step1 1 (by kernel_rfl) rfl (fun K hK => ?_)
      rw [if_pos (by rfl)]
      go_simp
      refine Calls.mono (odd_is (a) ha od (hoa.out) _) ?_
      rintro e w36 ⟨rfl, hg36⟩
      dsimp only
      refine hK.out _ _ (keepE hH35 hg36) (fun hH36 => ?_)
      clear hK K
      clear hH35
      clear hg36
      refine takeV 6 (.bool false) rfl (by kernel_rfl) (by kernel_rfl) (by kernel_rfl) (fun _ _ _ h => h) (by rfl) (fun w _ => by cases od <;> rfl) hH36 ?_
      simp only [Act.put, List.setIfInBounds_toArray, List.set_cons_zero, List.set_cons_succ]
      refine takeV 7 (.bool false) rfl (by kernel_rfl) (by kernel_rfl) (by kernel_rfl) (fun _ _ _ h => h) (by rfl) (fun w _ => rfl) hH36 ?_
      simp only [Act.put, List.setIfInBounds_toArray, List.set_cons_zero, List.set_cons_succ]
      refine take32 8 (a) (w.heap.size) rfl (by kernel_rfl) (by kernel_rfl) (by kernel_rfl) (fun _ _ _ h => h) (by rfl) rfl rfl (fun _ h => h.1 (w.heap.size, a) (.tail _ (.tail _ (.tail _ (.tail _ (.tail _ (.head _))))))) hH36 ?_
      simp only [Act.put, List.setIfInBounds_toArray, List.set_cons_zero, List.set_cons_succ]
      refine take32 9 (fred (a)) (w2.heap.size) rfl (by kernel_rfl) (by kernel_rfl) (by kernel_rfl) (fun _ _ _ h => h) (by rfl) rfl rfl (fun _ h => h.1 (w2.heap.size, fred (a)) (.tail _ (.tail _ (.tail _ (.head _))))) hH36 ?_
      simp only [Act.put, List.setIfInBounds_toArray, List.set_cons_zero, List.set_cons_succ]
      refine step1 10 (by kernel_rfl) rfl (fun K hK => ?_)
      rw [if_pos (by rfl)]
      go_simp
      refine Calls.mono (equal_is (a) (fred (a)) ha (fred_lt _) true (F.ea) _) ?_
      rintro e w37 ⟨rfl, hg37⟩
      dsimp only
      refine hK.out _ _ (keepE hH36 hg37) (fun hH37 => ?_)
      clear hK K
      clear hH36
      clear hg37
      refine takeV 11 (.bool false) rfl (by kernel_rfl) (by kernel_rfl) (by kernel_rfl) (fun _ _ _ h => h) (by rfl) (fun w _ => by first | rfl | go_simp) hH37 ?_
      simp only [Act.put, List.setIfInBounds_toArray, List.set_cons_zero, List.set_cons_succ]
      refine takeV 12 (.bool false) rfl (by kernel_rfl) (by kernel_rfl) (by kernel_rfl) (fun _ _ _ h => h) (by rfl) (fun w _ => rfl) hH37 ?_
      simp only [Act.put, List.setIfInBounds_toArray, List.set_cons_zero, List.set_cons_succ]
      refine takeV 13 (.bool false) rfl (by kernel_rfl) (by kernel_rfl) (by kernel_rfl) (fun _ _ _ h => h) (by rfl) (fun w _ => rfl) hH37 ?_
      simp only [Act.put, List.setIfInBounds_toArray, List.set_cons_zero, List.set_cons_succ]
      refine take32 14 (fred (a)) (w2.heap.size) rfl (by kernel_rfl) (by kernel_rfl) (by kernel_rfl) (fun _ _ _ h => h) (by rfl) rfl rfl (fun _ h => h.1 (w2.heap.size, fred (a)) (.tail _ (.tail _ (.tail _ (.head _))))) hH37 ?_
      simp only [Act.put, List.setIfInBounds_toArray, List.set_cons_zero, List.set_cons_succ]
      refine take32 15 (psum (fred (a)) (pp)) (w10.heap.size) rfl (by kernel_rfl) (by kernel_rfl) (by kernel_rfl) (fun _ _ _ h => h) (by rfl) rfl rfl (fun _ h => h.1 (w10.heap.size, psum (fred (a)) (pp)) (.tail _ (.tail _ (.head _)))) hH37 ?_
      simp only [Act.put, List.setIfInBounds_toArray, List.set_cons_zero, List.set_cons_succ]
      refine step1 16 (by kernel_rfl) rfl (fun K hK => ?_)
      rw [if_pos (by rfl)]
      go_simp
      refine Calls.mono (equal_is (fred (a)) (psum (fred (a)) (pp)) (fred_lt _) (psum_lt _ _) true (F.eo) _) ?_
      rintro e w38 ⟨rfl, hg38⟩
      dsimp only
      refine hK.out _ _ (keepE hH37 hg38) (fun hH38 => ?_)
      clear hK K
      clear hH37
      clear hg38
      refine takeV 17 (.bool false) rfl (by kernel_rfl) (by kernel_rfl) (by kernel_rfl) (fun _ _ _ h => h) (by rfl) (fun w _ => by first | rfl | go_simp) hH38 ?_
      simp only [Act.put, List.setIfInBounds_toArray, List.set_cons_zero, List.set_cons_succ]
      refine takeV 18 (.bool false) rfl (by kernel_rfl) (by kernel_rfl) (by kernel_rfl) (fun _ _ _ h => h) (by rfl) (fun w _ => rfl) hH38 ?_
      simp only [Act.put, List.setIfInBounds_toArray, List.set_cons_zero, List.set_cons_succ]
      refine takeV 19 (.bool false) rfl (by kernel_rfl) (by kernel_rfl) (by kernel_rfl) (fun _ _ _ h => h) (by rfl) (fun w _ => rfl) hH38 ?_
      simp only [Act.put, List.setIfInBounds_toArray, List.set_cons_zero, List.set_cons_succ]
      refine take32 20 (a) (w.heap.size) rfl (by kernel_rfl) (by kernel_rfl) (by kernel_rfl) (fun _ _ _ h => h) (by rfl) rfl rfl (fun _ h => h.1 (w.heap.size, a) (.tail _ (.tail _ (.tail _ (.tail _ (.tail _ (.head _))))))) hH38 ?_
      simp only [Act.put, List.setIfInBounds_toArray, List.set_cons_zero, List.set_cons_succ]
      refine take32 21 (fadd (a) (u)) (w15.heap.size) rfl (by kernel_rfl) (by kernel_rfl) (by kernel_rfl) (fun _ _ _ h => h) (by rfl) rfl rfl (fun _ h => h.1 (w15.heap.size, fadd (a) (u)) (.head _)) hH38 ?_
      simp only [Act.put, List.setIfInBounds_toArray, List.set_cons_zero, List.set_cons_succ]
      refine step1 22 (by kernel_rfl) rfl (fun K hK => ?_)
      rw [if_pos (by rfl)]
      go_simp
      refine Calls.mono (equal_is (a) (fadd (a) (u)) ha (fadd_lt _ _) false (F.en) _) ?_
      rintro e w39 ⟨rfl, hg39⟩
      dsimp only
      refine hK.out _ _ (keepE hH38 hg39) (fun hH39 => ?_)
      clear hK K
      clear hH38
      clear hg39
      refine takeV 23 (.bool false) rfl (by kernel_rfl) (by kernel_rfl) (by kernel_rfl) (fun _ _ _ h => h) (by rfl) (fun w _ => rfl) hH39 ?_
      simp only [Act.put, List.setIfInBounds_toArray, List.set_cons_zero, List.set_cons_succ]
      refine wpAnyH_done (by kernel_rfl) ?_ _
      refine NoPanic.normal ?_
      obtain ⟨hE40, hW40⟩ := hH39
      repeat ((fail_if_success (with_reducible show Code.wp _ (Code.region _ _ _) _ _ _)); go_step)
      refine wp_region_noPanic ?_
      refine wp_region_held_drew (S := fun w' => Holds [(w15.heap.size, fadd (a) (u)), (w12.heap.size, psum (psum (fred (a)) (pp)) (pp)), (w10.heap.size, psum (fred (a)) (pp)), (w2.heap.size, fred (a)), (w0.heap.size, pp), (w.heap.size, a)] w' ∧ Grown w w') (by kernel_rfl) ⟨hE40, hW40⟩ (fun hH41 => ?_)
      clear hE40 hW40
      refine take32 0 (psum (fred (a)) (pp)) (w10.heap.size) rfl (by kernel_rfl) (by kernel_rfl) (by kernel_rfl) (fun _ _ _ h => h) (by rfl) rfl rfl (fun _ h => h.1 (w10.heap.size, psum (fred (a)) (pp)) (.tail _ (.tail _ (.head _)))) hH41 ?_
      simp only [Act.put, List.setIfInBounds_toArray, List.set_cons_zero, List.set_cons_succ]
      refine take32 2 (fred (a)) (w2.heap.size) rfl (by kernel_rfl) (by kernel_rfl) (by kernel_rfl) (fun _ _ _ h => h) (by rfl) rfl rfl (fun _ h => h.1 (w2.heap.size, fred (a)) (.tail _ (.tail _ (.tail _ (.head _))))) hH41 ?_
      simp only [Act.put, List.setIfInBounds_toArray, List.set_cons_zero, List.set_cons_succ]
      refine step1 1 (by kernel_rfl) rfl (fun K hK => ?_)
      rw [if_pos (by rfl)]
      go_simp
      refine Calls.mono (Reduce_f (psum (fred (a)) (pp)) (psum_lt _ _) _) ?_
      rintro e w42 ⟨rfl, hg42⟩
      dsimp only
      refine hK.out _ _ (keepE hH41 hg42) (fun hH42 => ?_)
      clear hK K
      clear hH41
      clear hg42
      refine takeV 3 (.bool true) rfl (by kernel_rfl) (by kernel_rfl) (by kernel_rfl) (fun _ _ _ h => h) (by rfl) (fun w _ => exec_eql_same rfl (fred (psum (fred (a)) (pp))) (fred (a)) rfl rfl (fred_lt _) (fred_lt _) (F.fo) w) hH42 ?_
      simp only [Act.put, List.setIfInBounds_toArray, List.set_cons_zero, List.set_cons_succ]
      refine takeV 4 (.bool true) rfl (by kernel_rfl) (by kernel_rfl) (by kernel_rfl) (fun _ _ _ h => h) (by rfl) (fun w _ => rfl) hH42 ?_
      simp only [Act.put, List.setIfInBounds_toArray, List.set_cons_zero, List.set_cons_succ]
      refine wpAnyH_done (by kernel_rfl) ?_ _
      refine NoPanic.normal ?_
      obtain ⟨hE43, hW43⟩ := hH42
      repeat go_step
      go_ret
      exact ⟨rfl, by first | assumption | exact hW43⟩
  · -- operation 3 first
    refine alloc_op rfl (by rfl) (fun w44 hA44 ht44 => ?_)
    simp only [Act.put, List.setIfInBounds_toArray, List.set_cons_zero, List.set_cons_succ]
    refine hK.out _ _ (keepE hH14 hA44) (fun hH44 => ?_)
    clear hK K
    refine step1 1 (by kernel_rfl) rfl (fun K hK => ?_)
    rw [if_pos (by rfl)]
    go_simp
    refine Calls.mono (number_nat u (by rw [hu.out]; decide) 1 (by rw [hu.out]; rfl) _) ?_
    rintro e w45 ⟨rfl, hg45⟩
    dsimp only
    refine hK.out _ _ (keepE hH44 hg45) (fun hH45 => ?_)
    clear hK K
    have hA45 := grown_trans hA44 hg45
    have ht45 := there_grown ht44 hg45
    clear hA44 ht44
    clear hH44
    clear hg45
    refine step1 2 (by kernel_rfl) rfl (fun K hK => ?_)
    rw [if_pos (by rfl)]
    go_simp
    refine Calls.mono (Add_f (a) (u) ha huM _) ?_
    rintro e w46 ⟨rfl, hg46⟩
    dsimp only
    refine hK.out _ _ (keepE hH45 hg46) (fun hH46 => ?_)
    clear hK K
    have hA46 := grown_trans hA45 hg46
    have ht46 := there_grown ht45 hg46
    clear hA45 ht45
    clear hH45
    clear hg46
    refine step1 4 (by kernel_rfl) rfl (fun K hK => ?_)
    refine store_op (fadd (a) (u)) rfl (by rfl) rfl rfl ht46 hA46 (fun w47 hG47 hr47 => ?_)
    simp only [Act.put]
    refine hK.out _ _ (keepE hH14 hG47) (fun hH47 => ?_)
    clear hK K
    clear hH14 hH46 hG47 hA46 ht46
    refine wpAnyH_done (by kernel_rfl) ?_ _
    refine NoPanic.normal ?_
    obtain ⟨hE48, hW48⟩ := hH47
    have hE49 := hE48.cons hr47
    repeat ((fail_if_success (with_reducible show Code.wp _ (Code.region _ _ _) _ _ _)); go_step)
    refine wp_region_noPanic ?_
    refine wp_region_held_drew (S := fun w' => Holds [(w13.heap.size, fadd (a) (u)), (w12.heap.size, psum (psum (fred (a)) (pp)) (pp)), (w10.heap.size, psum (fred (a)) (pp)), (w2.heap.size, fred (a)), (w0.heap.size, pp), (w.heap.size, a)] w' ∧ Grown w w') (by kernel_rfl) ⟨hE49, hW48⟩ (fun hH50 => ?_)
    clear hE49 hW48
    refine take32 0 (a) (w.heap.size) rfl (by kernel_rfl) (by kernel_rfl) (by kernel_rfl) (fun _ _ _ h => h) (by rfl) rfl rfl (fun _ h => h.1 (w.heap.size, a) (.tail _ (.tail _ (.tail _ (.tail _ (.tail _ (.head _))))))) hH50 ?_
    simp only [Act.put, List.setIfInBounds_toArray, List.set_cons_zero, List.set_cons_succ]
    refine takeV 2 (.pointer (some ⟨w2.heap.size, 0, none⟩)) rfl (by kernel_rfl) (by kernel_rfl) (by kernel_rfl) (fun _ _ _ h => h) (by rfl) (fun w _ => by go_simp) hH50 ?_
    simp only [Act.put, List.setIfInBounds_toArray, List.set_cons_zero, List.set_cons_succ]
    refine takeV 3 (.int .u8 c0) rfl (by kernel_rfl) (by kernel_rfl) (by kernel_rfl) (fun _ _ _ h => h) (by rfl) (fun w h => by have hcc := hcell _ (h.1 (w2.heap.size, fred (a)) (.tail _ (.tail _ (.tail _ (.head _))))); go_simp) hH50 ?_
    simp only [Act.put, List.setIfInBounds_toArray, List.set_cons_zero, List.set_cons_succ]
    refine takeV 4 (.int .u8 ((c0 % 2 : Nat) : Int)) rfl (by kernel_rfl) (by kernel_rfl) (by kernel_rfl) (fun _ _ _ h => h) (by rfl) (fun w _ => exec_rem8 rfl c0 hc0 rfl rfl) hH50 ?_
    simp only [Act.put, List.setIfInBounds_toArray, List.set_cons_zero, List.set_cons_succ]
    refine takeV 5 (.bool od) rfl (by kernel_rfl) (by kernel_rfl) (by kernel_rfl) (fun _ _ _ h => h) (by rfl) (fun w _ => exec_eql8 rfl (c0 % 2) rfl rfl od hod.out) hH50 ?_
    simp only [Act.put, List.setIfInBounds_toArray, List.set_cons_zero, List.set_cons_succ]
    refine step1 1 (by kernel_rfl) rfl (fun K hK => ?_)
    rw [if_pos (by rfl)]
    go_simp
    refine Calls.mono (odd_is (a) ha od (hoa.out) _) ?_
    rintro e w51 ⟨rfl, hg51⟩
    dsimp only
    refine hK.out _ _ (keepE hH50 hg51) (fun hH51 => ?_)
    clear hK K
    clear hH50
    clear hg51
    refine takeV 6 (.bool false) rfl (by kernel_rfl) (by kernel_rfl) (by kernel_rfl) (fun _ _ _ h => h) (by rfl) (fun w _ => by cases od <;> rfl) hH51 ?_
    simp only [Act.put, List.setIfInBounds_toArray, List.set_cons_zero, List.set_cons_succ]
    refine takeV 7 (.bool false) rfl (by kernel_rfl) (by kernel_rfl) (by kernel_rfl) (fun _ _ _ h => h) (by rfl) (fun w _ => rfl) hH51 ?_
    simp only [Act.put, List.setIfInBounds_toArray, List.set_cons_zero, List.set_cons_succ]
    refine take32 8 (a) (w.heap.size) rfl (by kernel_rfl) (by kernel_rfl) (by kernel_rfl) (fun _ _ _ h => h) (by rfl) rfl rfl (fun _ h => h.1 (w.heap.size, a) (.tail _ (.tail _ (.tail _ (.tail _ (.tail _ (.head _))))))) hH51 ?_
    simp only [Act.put, List.setIfInBounds_toArray, List.set_cons_zero, List.set_cons_succ]
    refine take32 9 (fred (a)) (w2.heap.size) rfl (by kernel_rfl) (by kernel_rfl) (by kernel_rfl) (fun _ _ _ h => h) (by rfl) rfl rfl (fun _ h => h.1 (w2.heap.size, fred (a)) (.tail _ (.tail _ (.tail _ (.head _))))) hH51 ?_
    simp only [Act.put, List.setIfInBounds_toArray, List.set_cons_zero, List.set_cons_succ]
    refine step1 10 (by kernel_rfl) rfl (fun K hK => ?_)
    rw [if_pos (by rfl)]
    go_simp
    refine Calls.mono (equal_is (a) (fred (a)) ha (fred_lt _) true (F.ea) _) ?_
    rintro e w52 ⟨rfl, hg52⟩
    dsimp only
    refine hK.out _ _ (keepE hH51 hg52) (fun hH52 => ?_)
    clear hK K
    clear hH51
    clear hg52
    refine takeV 11 (.bool false) rfl (by kernel_rfl) (by kernel_rfl) (by kernel_rfl) (fun _ _ _ h => h) (by rfl) (fun w _ => by first | rfl | go_simp) hH52 ?_
    simp only [Act.put, List.setIfInBounds_toArray, List.set_cons_zero, List.set_cons_succ]
    refine takeV 12 (.bool false) rfl (by kernel_rfl) (by kernel_rfl) (by kernel_rfl) (fun _ _ _ h => h) (by rfl) (fun w _ => rfl) hH52 ?_
    simp only [Act.put, List.setIfInBounds_toArray, List.set_cons_zero, List.set_cons_succ]
    refine takeV 13 (.bool false) rfl (by kernel_rfl) (by kernel_rfl) (by kernel_rfl) (fun _ _ _ h => h) (by rfl) (fun w _ => rfl) hH52 ?_
    simp only [Act.put, List.setIfInBounds_toArray, List.set_cons_zero, List.set_cons_succ]
    refine take32 14 (fred (a)) (w2.heap.size) rfl (by kernel_rfl) (by kernel_rfl) (by kernel_rfl) (fun _ _ _ h => h) (by rfl) rfl rfl (fun _ h => h.1 (w2.heap.size, fred (a)) (.tail _ (.tail _ (.tail _ (.head _))))) hH52 ?_
    simp only [Act.put, List.setIfInBounds_toArray, List.set_cons_zero, List.set_cons_succ]
    refine take32 15 (psum (fred (a)) (pp)) (w10.heap.size) rfl (by kernel_rfl) (by kernel_rfl) (by kernel_rfl) (fun _ _ _ h => h) (by rfl) rfl rfl (fun _ h => h.1 (w10.heap.size, psum (fred (a)) (pp)) (.tail _ (.tail _ (.head _)))) hH52 ?_
    simp only [Act.put, List.setIfInBounds_toArray, List.set_cons_zero, List.set_cons_succ]
    refine step1 16 (by kernel_rfl) rfl (fun K hK => ?_)
    rw [if_pos (by rfl)]
    go_simp
    refine Calls.mono (equal_is (fred (a)) (psum (fred (a)) (pp)) (fred_lt _) (psum_lt _ _) true (F.eo) _) ?_
    rintro e w53 ⟨rfl, hg53⟩
    dsimp only
    refine hK.out _ _ (keepE hH52 hg53) (fun hH53 => ?_)
    clear hK K
    clear hH52
    clear hg53
    refine takeV 17 (.bool false) rfl (by kernel_rfl) (by kernel_rfl) (by kernel_rfl) (fun _ _ _ h => h) (by rfl) (fun w _ => by first | rfl | go_simp) hH53 ?_
    simp only [Act.put, List.setIfInBounds_toArray, List.set_cons_zero, List.set_cons_succ]
    refine takeV 18 (.bool false) rfl (by kernel_rfl) (by kernel_rfl) (by kernel_rfl) (fun _ _ _ h => h) (by rfl) (fun w _ => rfl) hH53 ?_
    simp only [Act.put, List.setIfInBounds_toArray, List.set_cons_zero, List.set_cons_succ]
    refine takeV 19 (.bool false) rfl (by kernel_rfl) (by kernel_rfl) (by kernel_rfl) (fun _ _ _ h => h) (by rfl) (fun w _ => rfl) hH53 ?_
    simp only [Act.put, List.setIfInBounds_toArray, List.set_cons_zero, List.set_cons_succ]
    refine take32 20 (a) (w.heap.size) rfl (by kernel_rfl) (by kernel_rfl) (by kernel_rfl) (fun _ _ _ h => h) (by rfl) rfl rfl (fun _ h => h.1 (w.heap.size, a) (.tail _ (.tail _ (.tail _ (.tail _ (.tail _ (.head _))))))) hH53 ?_
    simp only [Act.put, List.setIfInBounds_toArray, List.set_cons_zero, List.set_cons_succ]
    refine take32 21 (fadd (a) (u)) (w13.heap.size) rfl (by kernel_rfl) (by kernel_rfl) (by kernel_rfl) (fun _ _ _ h => h) (by rfl) rfl rfl (fun _ h => h.1 (w13.heap.size, fadd (a) (u)) (.head _)) hH53 ?_
    simp only [Act.put, List.setIfInBounds_toArray, List.set_cons_zero, List.set_cons_succ]
    refine step1 22 (by kernel_rfl) rfl (fun K hK => ?_)
    rw [if_pos (by rfl)]
    go_simp
    refine Calls.mono (equal_is (a) (fadd (a) (u)) ha (fadd_lt _ _) false (F.en) _) ?_
    rintro e w54 ⟨rfl, hg54⟩
    dsimp only
    refine hK.out _ _ (keepE hH53 hg54) (fun hH54 => ?_)
    clear hK K
    clear hH53
    clear hg54
    refine takeV 23 (.bool false) rfl (by kernel_rfl) (by kernel_rfl) (by kernel_rfl) (fun _ _ _ h => h) (by rfl) (fun w _ => rfl) hH54 ?_
    simp only [Act.put, List.setIfInBounds_toArray, List.set_cons_zero, List.set_cons_succ]
    refine wpAnyH_done (by kernel_rfl) ?_ _
    refine NoPanic.normal ?_
    obtain ⟨hE55, hW55⟩ := hH54
    repeat ((fail_if_success (with_reducible show Code.wp _ (Code.region _ _ _) _ _ _)); go_step)
    refine wp_region_noPanic ?_
    refine wp_region_held_drew (S := fun w' => Holds [(w13.heap.size, fadd (a) (u)), (w12.heap.size, psum (psum (fred (a)) (pp)) (pp)), (w10.heap.size, psum (fred (a)) (pp)), (w2.heap.size, fred (a)), (w0.heap.size, pp), (w.heap.size, a)] w' ∧ Grown w w') (by kernel_rfl) ⟨hE55, hW55⟩ (fun hH56 => ?_)
    clear hE55 hW55
    refine take32 0 (psum (fred (a)) (pp)) (w10.heap.size) rfl (by kernel_rfl) (by kernel_rfl) (by kernel_rfl) (fun _ _ _ h => h) (by rfl) rfl rfl (fun _ h => h.1 (w10.heap.size, psum (fred (a)) (pp)) (.tail _ (.tail _ (.head _)))) hH56 ?_
    simp only [Act.put, List.setIfInBounds_toArray, List.set_cons_zero, List.set_cons_succ]
    refine take32 2 (fred (a)) (w2.heap.size) rfl (by kernel_rfl) (by kernel_rfl) (by kernel_rfl) (fun _ _ _ h => h) (by rfl) rfl rfl (fun _ h => h.1 (w2.heap.size, fred (a)) (.tail _ (.tail _ (.tail _ (.head _))))) hH56 ?_
    simp only [Act.put, List.setIfInBounds_toArray, List.set_cons_zero, List.set_cons_succ]
    refine step1 1 (by kernel_rfl) rfl (fun K hK => ?_)
    rw [if_pos (by rfl)]
    go_simp
    refine Calls.mono (Reduce_f (psum (fred (a)) (pp)) (psum_lt _ _) _) ?_
    rintro e w57 ⟨rfl, hg57⟩
    dsimp only
    refine hK.out _ _ (keepE hH56 hg57) (fun hH57 => ?_)
    clear hK K
    clear hH56
    clear hg57
    refine takeV 3 (.bool true) rfl (by kernel_rfl) (by kernel_rfl) (by kernel_rfl) (fun _ _ _ h => h) (by rfl) (fun w _ => exec_eql_same rfl (fred (psum (fred (a)) (pp))) (fred (a)) rfl rfl (fred_lt _) (fred_lt _) (F.fo) w) hH57 ?_
    simp only [Act.put, List.setIfInBounds_toArray, List.set_cons_zero, List.set_cons_succ]
    refine takeV 4 (.bool true) rfl (by kernel_rfl) (by kernel_rfl) (by kernel_rfl) (fun _ _ _ h => h) (by rfl) (fun w _ => rfl) hH57 ?_
    simp only [Act.put, List.setIfInBounds_toArray, List.set_cons_zero, List.set_cons_succ]
    refine wpAnyH_done (by kernel_rfl) ?_ _
    refine NoPanic.normal ?_
    obtain ⟨hE58, hW58⟩ := hH57
    repeat go_step
    go_ret
    exact ⟨rfl, by first | assumption | exact hW58⟩

set_option maxRecDepth 100000 in
set_option maxHeartbeats 8000000 in
theorem canon_walkB (a u c0 pp : Nat) (od : Bool) (ha : a < M) (hpp : Hid (pp = p)) (hppM : pp < M) (hu : Hid (u = 1)) (huM : u < M) (hc0 : c0 < 256) (hcell : ∀ (wr : World) {b : Nat}, wr.rangeAt b 0 (bl (fred a)) → wr.cell? ⟨b, 0, none⟩ = some (.int .u8 (c0 : Int)))
    (hod : Hid (decide (c0 % 2 = 1) = od)) (hoa : Hid (decide (a % p % 2 = 1) = od)) (F : Facts a u pp) (hlt : Hid (decide (a < p) = false)) (hlt2 : Hid (decide (a < pp) = false)) (h1 : Hid (¬ a = fred a)) (h2 : Hid (a = psum (fred a) pp)) (w : World) :
    Calls Try.prog 4 #[bv a] w fun e w' => e = .returned (.bool true) ∧ Grown w w' := by
  rw [bv]
  go_enter Try.func4, Try.ntmps4
  go_wp2_with fail
  obtain ⟨hE0, hW0⟩ := params1 w a
  generalize (w.alloc (Obj.cells (bl a).toArray 22)) = W0 at hE0 hW0 ⊢
  refine Calls.mono (prime_is pp hpp.out _) ?_
  rintro e w0 ⟨rfl, hg0⟩
  dsimp only
  go_step
  have hE00 := hE0.grown hg0
  have hW00 := grown_trans hW0 hg0
  clear hE0 hW0 hg0
  go_wp2_with (with_reducible show wpList _ _ _ ({ dst := _, op := Op.store 22 _ _, type := _, pos := _, after := _, guard := _ } :: _) _ _; refine Shut.out ?_)
  show wpList _ _ _ _ _ _
  refine wpList_store_new (pp) (by simp) rfl rfl rfl rfl (fun w1 hg1 hr1 _ => ?_)
  simp only [Act.put]
  have hE1 := (hE00.grown hg1).cons hr1
  have hW1 := grown_trans hW00 hg1
  clear hE00 hW00 hg1 hr1
  apply wpList_nil
  repeat ((fail_if_success (with_reducible show Code.wp _ (Code.region _ _ _) _ _ _)); go_step)
  apply wp_region_lit
  refine wpList_load32 rfl _ rfl _ rfl (a) (hE1 (w.heap.size, a) (.tail _ (.head _))) ?_
  simp only [Act.put, List.setIfInBounds_toArray, List.set_cons_zero, List.set_cons_succ]
  go_wp2_with fail
  refine Calls.mono (Reduce_f (a) ha _) ?_
  rintro e w2 ⟨rfl, hg2⟩
  dsimp only
  go_step
  have hE2 := hE1.grown hg2
  have hW2 := grown_trans hW1 hg2
  clear hE1 hW1 hg2
  go_wp2_with (with_reducible show wpList _ _ _ ({ dst := _, op := Op.store 22 _ _, type := _, pos := _, after := _, guard := _ } :: _) _ _; refine Shut.out ?_)
  show wpList _ _ _ _ _ _
  refine wpList_store_new (fred (a)) (by simp) rfl rfl rfl rfl (fun w3 hg3 hr3 _ => ?_)
  simp only [Act.put]
  have hE3 := (hE2.grown hg3).cons hr3
  have hW3 := grown_trans hW2 hg3
  clear hE2 hW2 hg3 hr3
  apply wpList_nil
  repeat ((fail_if_success (with_reducible show Code.wp _ (Code.region _ _ _) _ _ _)); go_step)
  refine wp_region_noPanic ?_
  refine wp_region_held_drew (S := fun w' => Holds [(w2.heap.size, fred (a)), (w0.heap.size, pp), (w.heap.size, a)] w' ∧ Grown w w') (by kernel_rfl) ⟨hE3, hW3⟩ (fun hH4 => ?_)
  clear hE3 hW3
  refine take32 0 (fred (a)) (w2.heap.size) rfl (by kernel_rfl) (by kernel_rfl) (by kernel_rfl) (fun _ _ _ h => h) (by rfl) rfl rfl (fun _ h => h.1 (w2.heap.size, fred (a)) (.head _)) hH4 ?_
  simp only [Act.put, List.setIfInBounds_toArray, List.set_cons_zero, List.set_cons_succ]
  refine take32 1 (pp) (w0.heap.size) rfl (by kernel_rfl) (by kernel_rfl) (by kernel_rfl) (fun _ _ _ h => h) (by rfl) rfl rfl (fun _ h => h.1 (w0.heap.size, pp) (.tail _ (.head _))) hH4 ?_
  simp only [Act.put, List.setIfInBounds_toArray, List.set_cons_zero, List.set_cons_succ]
  refine step1 2 (by kernel_rfl) rfl (fun K hK => ?_)
  rw [if_pos (by rfl)]
  go_simp
  refine Calls.mono (less_is (fred (a)) (pp) (fred_lt _) hppM true (F.rl') _) ?_
  rintro e w5 ⟨rfl, hg5⟩
  dsimp only
  refine hK.out _ _ (keepE hH4 hg5) (fun hH5 => ?_)
  clear hK K
  clear hH4
  clear hg5
  refine takeV 3 (.bool false) rfl (by kernel_rfl) (by kernel_rfl) (by kernel_rfl) (fun _ _ _ h => h) (by rfl) (fun w _ => by first | rfl | go_simp) hH5 ?_
  simp only [Act.put, List.setIfInBounds_toArray, List.set_cons_zero, List.set_cons_succ]
  refine takeV 4 (.bool false) rfl (by kernel_rfl) (by kernel_rfl) (by kernel_rfl) (fun _ _ _ h => h) (by rfl) (fun w _ => rfl) hH5 ?_
  simp only [Act.put, List.setIfInBounds_toArray, List.set_cons_zero, List.set_cons_succ]
  refine take32 5 (a) (w.heap.size) rfl (by kernel_rfl) (by kernel_rfl) (by kernel_rfl) (fun _ _ _ h => h) (by rfl) rfl rfl (fun _ h => h.1 (w.heap.size, a) (.tail _ (.tail _ (.head _)))) hH5 ?_
  simp only [Act.put, List.setIfInBounds_toArray, List.set_cons_zero, List.set_cons_succ]
  refine take32 7 (a) (w.heap.size) rfl (by kernel_rfl) (by kernel_rfl) (by kernel_rfl) (fun _ _ _ h => h) (by rfl) rfl rfl (fun _ h => h.1 (w.heap.size, a) (.tail _ (.tail _ (.head _)))) hH5 ?_
  simp only [Act.put, List.setIfInBounds_toArray, List.set_cons_zero, List.set_cons_succ]
  refine take32 8 (pp) (w0.heap.size) rfl (by kernel_rfl) (by kernel_rfl) (by kernel_rfl) (fun _ _ _ h => h) (by rfl) rfl rfl (fun _ h => h.1 (w0.heap.size, pp) (.tail _ (.head _))) hH5 ?_
  simp only [Act.put, List.setIfInBounds_toArray, List.set_cons_zero, List.set_cons_succ]
  refine step1 6 (by kernel_rfl) rfl (fun K hK => ?_)
  rw [if_pos (by rfl)]
  go_simp
  refine Calls.mono (canon_is (a) ha false (hlt.out) _) ?_
  rintro e w6 ⟨rfl, hg6⟩
  dsimp only
  refine hK.out _ _ (keepE hH5 hg6) (fun hH6 => ?_)
  clear hK K
  clear hH5
  clear hg6
  refine step1 9 (by kernel_rfl) rfl (fun K hK => ?_)
  rw [if_pos (by rfl)]
  go_simp
  refine Calls.mono (less_is (a) (pp) ha hppM false (hlt2.out) _) ?_
  rintro e w7 ⟨rfl, hg7⟩
  dsimp only
  refine hK.out _ _ (keepE hH6 hg7) (fun hH7 => ?_)
  clear hK K
  clear hH6
  clear hg7
  refine takeV 10 (.bool false) rfl (by kernel_rfl) (by kernel_rfl) (by kernel_rfl) (fun _ _ _ h => h) (by rfl) (fun w _ => by first | rfl | go_simp) hH7 ?_
  simp only [Act.put, List.setIfInBounds_toArray, List.set_cons_zero, List.set_cons_succ]
  refine takeV 11 (.bool false) rfl (by kernel_rfl) (by kernel_rfl) (by kernel_rfl) (fun _ _ _ h => h) (by rfl) (fun w _ => rfl) hH7 ?_
  simp only [Act.put, List.setIfInBounds_toArray, List.set_cons_zero, List.set_cons_succ]
  refine takeV 12 (.bool false) rfl (by kernel_rfl) (by kernel_rfl) (by kernel_rfl) (fun _ _ _ h => h) (by rfl) (fun w _ => rfl) hH7 ?_
  simp only [Act.put, List.setIfInBounds_toArray, List.set_cons_zero, List.set_cons_succ]
  refine take32 13 (fred (a)) (w2.heap.size) rfl (by kernel_rfl) (by kernel_rfl) (by kernel_rfl) (fun _ _ _ h => h) (by rfl) rfl rfl (fun _ h => h.1 (w2.heap.size, fred (a)) (.head _)) hH7 ?_
  simp only [Act.put, List.setIfInBounds_toArray, List.set_cons_zero, List.set_cons_succ]
  refine step1 14 (by kernel_rfl) rfl (fun K hK => ?_)
  rw [if_pos (by rfl)]
  go_simp
  refine Calls.mono (canon_is (fred (a)) (fred_lt _) true (F.rl) _) ?_
  rintro e w8 ⟨rfl, hg8⟩
  dsimp only
  refine hK.out _ _ (keepE hH7 hg8) (fun hH8 => ?_)
  clear hK K
  clear hH7
  clear hg8
  refine takeV 15 (.bool false) rfl (by kernel_rfl) (by kernel_rfl) (by kernel_rfl) (fun _ _ _ h => h) (by rfl) (fun w _ => by first | rfl | go_simp) hH8 ?_
  simp only [Act.put, List.setIfInBounds_toArray, List.set_cons_zero, List.set_cons_succ]
  refine takeV 16 (.bool false) rfl (by kernel_rfl) (by kernel_rfl) (by kernel_rfl) (fun _ _ _ h => h) (by rfl) (fun w _ => rfl) hH8 ?_
  simp only [Act.put, List.setIfInBounds_toArray, List.set_cons_zero, List.set_cons_succ]
  refine wpAnyH_done (by kernel_rfl) ?_ _
  refine NoPanic.normal ?_
  obtain ⟨hE9, hW9⟩ := hH8
  repeat ((fail_if_success (with_reducible show Code.wp _ (Code.region _ _ _) _ _ _)); go_step)
  apply wp_region_lit
  refine wpList_load32 rfl _ rfl _ rfl (fred (a)) (hE9 (w2.heap.size, fred (a)) (.head _)) ?_
  simp only [Act.put, List.setIfInBounds_toArray, List.set_cons_zero, List.set_cons_succ]
  refine wpList_load32 rfl _ rfl _ rfl (pp) (hE9 (w0.heap.size, pp) (.tail _ (.head _))) ?_
  simp only [Act.put, List.setIfInBounds_toArray, List.set_cons_zero, List.set_cons_succ]
  go_wp2_with fail
  refine Calls.mono (lawplus_f (fred (a)) (pp) _) ?_
  rintro e w10 ⟨⟨cc10, rfl⟩, hg10⟩
  dsimp only
  go_step
  have hE10 := hE9.grown hg10
  have hW10 := grown_trans hW9 hg10
  clear hE9 hW9 hg10
  refine wpList_val (.tuple #[bv (psum (fred (a)) (pp)), .int .i64 cc10]) rfl rfl ?_
  simp only [Act.put, List.setIfInBounds_toArray, List.set_cons_zero, List.set_cons_succ]
  refine wpList_val (bv (psum (fred (a)) (pp))) rfl rfl ?_
  simp only [Act.put, List.setIfInBounds_toArray, List.set_cons_zero, List.set_cons_succ]
  refine wpList_val (.int .i64 cc10) rfl rfl ?_
  simp only [Act.put, List.setIfInBounds_toArray, List.set_cons_zero, List.set_cons_succ]
  go_wp2_with (with_reducible show wpList _ _ _ ({ dst := _, op := Op.store 22 _ _, type := _, pos := _, after := _, guard := _ } :: _) _ _; refine Shut.out ?_)
  show wpList _ _ _ _ _ _
  refine wpList_store_new (psum (fred (a)) (pp)) (by simp) rfl rfl rfl rfl (fun w11 hg11 hr11 _ => ?_)
  simp only [Act.put]
  have hE11 := (hE10.grown hg11).cons hr11
  have hW11 := grown_trans hW10 hg11
  clear hE10 hW10 hg11 hr11
  refine wpList_val (.int .i64 (cc10)) rfl rfl ?_
  simp only [Act.put, List.setIfInBounds_toArray, List.set_cons_zero, List.set_cons_succ]
  apply wpList_nil
  repeat ((fail_if_success (with_reducible show Code.wp _ (Code.region _ _ _) _ _ _)); go_step)
  apply wp_region_lit
  refine wpList_load32 rfl _ rfl _ rfl (psum (fred (a)) (pp)) (hE11 (w10.heap.size, psum (fred (a)) (pp)) (.head _)) ?_
  simp only [Act.put, List.setIfInBounds_toArray, List.set_cons_zero, List.set_cons_succ]
  refine wpList_load32 rfl _ rfl _ rfl (pp) (hE11 (w0.heap.size, pp) (.tail _ (.tail _ (.head _)))) ?_
  simp only [Act.put, List.setIfInBounds_toArray, List.set_cons_zero, List.set_cons_succ]
  go_wp2_with fail
  refine Calls.mono (lawplus_f (psum (fred (a)) (pp)) (pp) _) ?_
  rintro e w12 ⟨⟨cc12, rfl⟩, hg12⟩
  dsimp only
  go_step
  have hE12 := hE11.grown hg12
  have hW12 := grown_trans hW11 hg12
  clear hE11 hW11 hg12
  refine wpList_val (.tuple #[bv (psum (psum (fred (a)) (pp)) (pp)), .int .i64 cc12]) rfl rfl ?_
  simp only [Act.put, List.setIfInBounds_toArray, List.set_cons_zero, List.set_cons_succ]
  refine wpList_val (bv (psum (psum (fred (a)) (pp)) (pp))) rfl rfl ?_
  simp only [Act.put, List.setIfInBounds_toArray, List.set_cons_zero, List.set_cons_succ]
  refine wpList_val (.int .i64 cc12) rfl rfl ?_
  simp only [Act.put, List.setIfInBounds_toArray, List.set_cons_zero, List.set_cons_succ]
  go_wp2_with (with_reducible show wpList _ _ _ ({ dst := _, op := Op.store 22 _ _, type := _, pos := _, after := _, guard := _ } :: _) _ _; refine Shut.out ?_)
  show wpList _ _ _ _ _ _
  refine wpList_store_new (psum (psum (fred (a)) (pp)) (pp)) (by simp) rfl rfl rfl rfl (fun w13 hg13 hr13 _ => ?_)
  simp only [Act.put]
  have hE13 := (hE12.grown hg13).cons hr13
  have hW13 := grown_trans hW12 hg13
  clear hE12 hW12 hg13 hr13
  refine wpList_val (.int .i64 (cc12)) rfl rfl ?_
  simp only [Act.put, List.setIfInBounds_toArray, List.set_cons_zero, List.set_cons_succ]
  apply wpList_nil
  repeat ((fail_if_success (with_reducible show Code.wp _ (Code.region _ _ _) _ _ _)); go_step)
  apply wp_region_lit
  refine wpList_load32 rfl _ rfl _ rfl (a) (hE13 (w.heap.size, a) (.tail _ (.tail _ (.tail _ (.tail _ (.head _)))))) ?_
  simp only [Act.put, List.setIfInBounds_toArray, List.set_cons_zero, List.set_cons_succ]
  refine wpList_load32 rfl _ rfl _ rfl (fred (a)) (hE13 (w2.heap.size, fred (a)) (.tail _ (.tail _ (.head _)))) ?_
  simp only [Act.put, List.setIfInBounds_toArray, List.set_cons_zero, List.set_cons_succ]
  refine wpList_val (.bool true) rfl (exec_neq_apart rfl (a) (fred (a)) rfl rfl ha (fred_lt _) (h1.out) _) ?_
  simp only [Act.put, List.setIfInBounds_toArray, List.set_cons_zero, List.set_cons_succ]
  refine wpList_val (.bool true) rfl rfl ?_
  simp only [Act.put, List.setIfInBounds_toArray, List.set_cons_zero, List.set_cons_succ]
  refine wpList_load32G (by rfl) _ rfl _ rfl (a) (hE13 (w.heap.size, a) (.tail _ (.tail _ (.tail _ (.tail _ (.head _)))))) ?_
  simp only [Act.put, List.setIfInBounds_toArray, List.set_cons_zero, List.set_cons_succ]
  refine wpList_load32G (by rfl) _ rfl _ rfl (psum (fred (a)) (pp)) (hE13 (w10.heap.size, psum (fred (a)) (pp)) (.tail _ (.head _))) ?_
  simp only [Act.put, List.setIfInBounds_toArray, List.set_cons_zero, List.set_cons_succ]
  refine wpList_valG (.bool false) (by rfl) (exec_neq_same rfl (a) (psum (fred (a)) (pp)) rfl rfl ha (psum_lt _ _) (h2.out) _) ?_
  simp only [Act.put, List.setIfInBounds_toArray, List.set_cons_zero, List.set_cons_succ]
  refine wpList_val (.bool false) rfl rfl ?_
  simp only [Act.put, List.setIfInBounds_toArray, List.set_cons_zero, List.set_cons_succ]
  refine wpList_val (.bool false) rfl rfl ?_
  simp only [Act.put, List.setIfInBounds_toArray, List.set_cons_zero, List.set_cons_succ]
  refine wpList_skipU (by rfl) ?_
  simp only [Act.put, List.setIfInBounds_toArray, List.set_cons_zero, List.set_cons_succ]
  refine wpList_skipU (by rfl) ?_
  simp only [Act.put, List.setIfInBounds_toArray, List.set_cons_zero, List.set_cons_succ]
  refine wpList_skipU (by rfl) ?_
  simp only [Act.put, List.setIfInBounds_toArray, List.set_cons_zero, List.set_cons_succ]
  refine wpList_val (.bool false) rfl rfl ?_
  simp only [Act.put, List.setIfInBounds_toArray, List.set_cons_zero, List.set_cons_succ]
  apply wpList_nil
  repeat ((fail_if_success (with_reducible show Code.wp _ (Code.region _ _ _) _ _ _)); go_step)
  refine wp_region_noPanic ?_
  refine wp_region_held_drew (S := fun w' => Holds [(w12.heap.size, psum (psum (fred (a)) (pp)) (pp)), (w10.heap.size, psum (fred (a)) (pp)), (w2.heap.size, fred (a)), (w0.heap.size, pp), (w.heap.size, a)] w' ∧ Grown w w') (by kernel_rfl) ⟨hE13, hW13⟩ (fun hH14 => ?_)
  clear hE13 hW13
  refine take32 0 (a) (w.heap.size) rfl (by kernel_rfl) (by kernel_rfl) (by kernel_rfl) (fun _ _ _ h => h) (by rfl) rfl rfl (fun _ h => h.1 (w.heap.size, a) (.tail _ (.tail _ (.tail _ (.tail _ (.head _)))))) hH14 ?_
  simp only [Act.put, List.setIfInBounds_toArray, List.set_cons_zero, List.set_cons_succ]
  refine step2 1 3 (by kernel_rfl) rfl rfl (fun K hK => ?_) (fun K hK => ?_)
  · -- operation 1 first
    rw [if_pos (by rfl)]
    go_simp
    refine Calls.mono (number_nat u (by rw [hu.out]; decide) 1 (by rw [hu.out]; rfl) _) ?_
    rintro e w15 ⟨rfl, hg15⟩
    dsimp only
    refine hK.out _ _ (keepE hH14 hg15) (fun hH15 => ?_)
    clear hK K
    clear hH14
    clear hg15
    refine step2 2 3 (by kernel_rfl) rfl rfl (fun K hK => ?_) (fun K hK => ?_)
    · -- operation 2 first
      rw [if_pos (by rfl)]
      go_simp
      refine Calls.mono (Add_f (a) (u) ha huM _) ?_
      rintro e w16 ⟨rfl, hg16⟩
      dsimp only
      refine hK.out _ _ (keepE hH15 hg16) (fun hH16 => ?_)
      clear hK K
      clear hH15
      clear hg16
      refine step1 3 (by kernel_rfl) rfl (fun K hK => ?_)
      refine alloc_op rfl (by rfl) (fun w17 hA17 ht17 => ?_)
      simp only [Act.put, List.setIfInBounds_toArray, List.set_cons_zero, List.set_cons_succ]
      refine hK.out _ _ (keepE hH16 hA17) (fun hH17 => ?_)
      clear hK K
      refine step1 4 (by kernel_rfl) rfl (fun K hK => ?_)
      refine store_op (fadd (a) (u)) rfl (by rfl) rfl rfl ht17 hA17 (fun w18 hG18 hr18 => ?_)
      simp only [Act.put]
      refine hK.out _ _ (keepE hH16 hG18) (fun hH18 => ?_)
      clear hK K
      clear hH16 hH17 hG18 hA17 ht17
      refine wpAnyH_done (by kernel_rfl) ?_ _
      refine NoPanic.normal ?_
      obtain ⟨hE19, hW19⟩ := hH18
      have hE20 := hE19.cons hr18
      repeat ((fail_if_success (with_reducible show Code.wp _ (Code.region _ _ _) _ _ _)); go_step)
      refine wp_region_noPanic ?_
      refine wp_region_held_drew (S := fun w' => Holds [(w16.heap.size, fadd (a) (u)), (w12.heap.size, psum (psum (fred (a)) (pp)) (pp)), (w10.heap.size, psum (fred (a)) (pp)), (w2.heap.size, fred (a)), (w0.heap.size, pp), (w.heap.size, a)] w' ∧ Grown w w') (by kernel_rfl) ⟨hE20, hW19⟩ (fun hH21 => ?_)
      clear hE20 hW19
      refine take32 0 (a) (w.heap.size) rfl (by kernel_rfl) (by kernel_rfl) (by kernel_rfl) (fun _ _ _ h => h) (by rfl) rfl rfl (fun _ h => h.1 (w.heap.size, a) (.tail _ (.tail _ (.tail _ (.tail _ (.tail _ (.head _))))))) hH21 ?_
      simp only [Act.put, List.setIfInBounds_toArray, List.set_cons_zero, List.set_cons_succ]
      refine takeV 2 (.pointer (some ⟨w2.heap.size, 0, none⟩)) rfl (by kernel_rfl) (by kernel_rfl) (by kernel_rfl) (fun _ _ _ h => h) (by rfl) (fun w _ => by go_simp) hH21 ?_
      simp only [Act.put, List.setIfInBounds_toArray, List.set_cons_zero, List.set_cons_succ]
      refine takeV 3 (.int .u8 c0) rfl (by kernel_rfl) (by kernel_rfl) (by kernel_rfl) (fun _ _ _ h => h) (by rfl) (fun w h => by have hcc := hcell _ (h.1 (w2.heap.size, fred (a)) (.tail _ (.tail _ (.tail _ (.head _))))); go_simp) hH21 ?_
      simp only [Act.put, List.setIfInBounds_toArray, List.set_cons_zero, List.set_cons_succ]
      refine takeV 4 (.int .u8 ((c0 % 2 : Nat) : Int)) rfl (by kernel_rfl) (by kernel_rfl) (by kernel_rfl) (fun _ _ _ h => h) (by rfl) (fun w _ => exec_rem8 rfl c0 hc0 rfl rfl) hH21 ?_
      simp only [Act.put, List.setIfInBounds_toArray, List.set_cons_zero, List.set_cons_succ]
      refine takeV 5 (.bool od) rfl (by kernel_rfl) (by kernel_rfl) (by kernel_rfl) (fun _ _ _ h => h) (by rfl) (fun w _ => exec_eql8 rfl (c0 % 2) rfl rfl od hod.out) hH21 ?_
      simp only [Act.put, List.setIfInBounds_toArray, List.set_cons_zero, List.set_cons_succ]
      refine step1 1 (by kernel_rfl) rfl (fun K hK => ?_)
      rw [if_pos (by rfl)]
      go_simp
      refine Calls.mono (odd_is (a) ha od (hoa.out) _) ?_
      rintro e w22 ⟨rfl, hg22⟩
      dsimp only
      refine hK.out _ _ (keepE hH21 hg22) (fun hH22 => ?_)
      clear hK K
      clear hH21
      clear hg22
      refine takeV 6 (.bool false) rfl (by kernel_rfl) (by kernel_rfl) (by kernel_rfl) (fun _ _ _ h => h) (by rfl) (fun w _ => by cases od <;> rfl) hH22 ?_
      simp only [Act.put, List.setIfInBounds_toArray, List.set_cons_zero, List.set_cons_succ]
      refine takeV 7 (.bool false) rfl (by kernel_rfl) (by kernel_rfl) (by kernel_rfl) (fun _ _ _ h => h) (by rfl) (fun w _ => rfl) hH22 ?_
      simp only [Act.put, List.setIfInBounds_toArray, List.set_cons_zero, List.set_cons_succ]
      refine take32 8 (a) (w.heap.size) rfl (by kernel_rfl) (by kernel_rfl) (by kernel_rfl) (fun _ _ _ h => h) (by rfl) rfl rfl (fun _ h => h.1 (w.heap.size, a) (.tail _ (.tail _ (.tail _ (.tail _ (.tail _ (.head _))))))) hH22 ?_
      simp only [Act.put, List.setIfInBounds_toArray, List.set_cons_zero, List.set_cons_succ]
      refine take32 9 (fred (a)) (w2.heap.size) rfl (by kernel_rfl) (by kernel_rfl) (by kernel_rfl) (fun _ _ _ h => h) (by rfl) rfl rfl (fun _ h => h.1 (w2.heap.size, fred (a)) (.tail _ (.tail _ (.tail _ (.head _))))) hH22 ?_
      simp only [Act.put, List.setIfInBounds_toArray, List.set_cons_zero, List.set_cons_succ]
      refine step1 10 (by kernel_rfl) rfl (fun K hK => ?_)
      rw [if_pos (by rfl)]
      go_simp
      refine Calls.mono (equal_is (a) (fred (a)) ha (fred_lt _) true (F.ea) _) ?_
      rintro e w23 ⟨rfl, hg23⟩
      dsimp only
      refine hK.out _ _ (keepE hH22 hg23) (fun hH23 => ?_)
      clear hK K
      clear hH22
      clear hg23
      refine takeV 11 (.bool false) rfl (by kernel_rfl) (by kernel_rfl) (by kernel_rfl) (fun _ _ _ h => h) (by rfl) (fun w _ => by first | rfl | go_simp) hH23 ?_
      simp only [Act.put, List.setIfInBounds_toArray, List.set_cons_zero, List.set_cons_succ]
      refine takeV 12 (.bool false) rfl (by kernel_rfl) (by kernel_rfl) (by kernel_rfl) (fun _ _ _ h => h) (by rfl) (fun w _ => rfl) hH23 ?_
      simp only [Act.put, List.setIfInBounds_toArray, List.set_cons_zero, List.set_cons_succ]
      refine takeV 13 (.bool false) rfl (by kernel_rfl) (by kernel_rfl) (by kernel_rfl) (fun _ _ _ h => h) (by rfl) (fun w _ => rfl) hH23 ?_
      simp only [Act.put, List.setIfInBounds_toArray, List.set_cons_zero, List.set_cons_succ]
      refine take32 14 (fred (a)) (w2.heap.size) rfl (by kernel_rfl) (by kernel_rfl) (by kernel_rfl) (fun _ _ _ h => h) (by rfl) rfl rfl (fun _ h => h.1 (w2.heap.size, fred (a)) (.tail _ (.tail _ (.tail _ (.head _))))) hH23 ?_
      simp only [Act.put, List.setIfInBounds_toArray, List.set_cons_zero, List.set_cons_succ]
      refine take32 15 (psum (fred (a)) (pp)) (w10.heap.size) rfl (by kernel_rfl) (by kernel_rfl) (by kernel_rfl) (fun _ _ _ h => h) (by rfl) rfl rfl (fun _ h => h.1 (w10.heap.size, psum (fred (a)) (pp)) (.tail _ (.tail _ (.head _)))) hH23 ?_
      simp only [Act.put, List.setIfInBounds_toArray, List.set_cons_zero, List.set_cons_succ]
      refine step1 16 (by kernel_rfl) rfl (fun K hK => ?_)
      rw [if_pos (by rfl)]
      go_simp
      refine Calls.mono (equal_is (fred (a)) (psum (fred (a)) (pp)) (fred_lt _) (psum_lt _ _) true (F.eo) _) ?_
      rintro e w24 ⟨rfl, hg24⟩
      dsimp only
      refine hK.out _ _ (keepE hH23 hg24) (fun hH24 => ?_)
      clear hK K
      clear hH23
      clear hg24
      refine takeV 17 (.bool false) rfl (by kernel_rfl) (by kernel_rfl) (by kernel_rfl) (fun _ _ _ h => h) (by rfl) (fun w _ => by first | rfl | go_simp) hH24 ?_
      simp only [Act.put, List.setIfInBounds_toArray, List.set_cons_zero, List.set_cons_succ]
      refine takeV 18 (.bool false) rfl (by kernel_rfl) (by kernel_rfl) (by kernel_rfl) (fun _ _ _ h => h) (by rfl) (fun w _ => rfl) hH24 ?_
      simp only [Act.put, List.setIfInBounds_toArray, List.set_cons_zero, List.set_cons_succ]
      refine takeV 19 (.bool false) rfl (by kernel_rfl) (by kernel_rfl) (by kernel_rfl) (fun _ _ _ h => h) (by rfl) (fun w _ => rfl) hH24 ?_
      simp only [Act.put, List.setIfInBounds_toArray, List.set_cons_zero, List.set_cons_succ]
      refine take32 20 (a) (w.heap.size) rfl (by kernel_rfl) (by kernel_rfl) (by kernel_rfl) (fun _ _ _ h => h) (by rfl) rfl rfl (fun _ h => h.1 (w.heap.size, a) (.tail _ (.tail _ (.tail _ (.tail _ (.tail _ (.head _))))))) hH24 ?_
      simp only [Act.put, List.setIfInBounds_toArray, List.set_cons_zero, List.set_cons_succ]
      refine take32 21 (fadd (a) (u)) (w16.heap.size) rfl (by kernel_rfl) (by kernel_rfl) (by kernel_rfl) (fun _ _ _ h => h) (by rfl) rfl rfl (fun _ h => h.1 (w16.heap.size, fadd (a) (u)) (.head _)) hH24 ?_
      simp only [Act.put, List.setIfInBounds_toArray, List.set_cons_zero, List.set_cons_succ]
      refine step1 22 (by kernel_rfl) rfl (fun K hK => ?_)
      rw [if_pos (by rfl)]
      go_simp
      refine Calls.mono (equal_is (a) (fadd (a) (u)) ha (fadd_lt _ _) false (F.en) _) ?_
      rintro e w25 ⟨rfl, hg25⟩
      dsimp only
      refine hK.out _ _ (keepE hH24 hg25) (fun hH25 => ?_)
      clear hK K
      clear hH24
      clear hg25
      refine takeV 23 (.bool false) rfl (by kernel_rfl) (by kernel_rfl) (by kernel_rfl) (fun _ _ _ h => h) (by rfl) (fun w _ => rfl) hH25 ?_
      simp only [Act.put, List.setIfInBounds_toArray, List.set_cons_zero, List.set_cons_succ]
      refine wpAnyH_done (by kernel_rfl) ?_ _
      refine NoPanic.normal ?_
      obtain ⟨hE26, hW26⟩ := hH25
      repeat ((fail_if_success (with_reducible show Code.wp _ (Code.region _ _ _) _ _ _)); go_step)
      refine wp_region_noPanic ?_
      refine wp_region_held_drew (S := fun w' => Holds [(w16.heap.size, fadd (a) (u)), (w12.heap.size, psum (psum (fred (a)) (pp)) (pp)), (w10.heap.size, psum (fred (a)) (pp)), (w2.heap.size, fred (a)), (w0.heap.size, pp), (w.heap.size, a)] w' ∧ Grown w w') (by kernel_rfl) ⟨hE26, hW26⟩ (fun hH27 => ?_)
      clear hE26 hW26
      refine take32 0 (psum (fred (a)) (pp)) (w10.heap.size) rfl (by kernel_rfl) (by kernel_rfl) (by kernel_rfl) (fun _ _ _ h => h) (by rfl) rfl rfl (fun _ h => h.1 (w10.heap.size, psum (fred (a)) (pp)) (.tail _ (.tail _ (.head _)))) hH27 ?_
      simp only [Act.put, List.setIfInBounds_toArray, List.set_cons_zero, List.set_cons_succ]
      refine take32 2 (fred (a)) (w2.heap.size) rfl (by kernel_rfl) (by kernel_rfl) (by kernel_rfl) (fun _ _ _ h => h) (by rfl) rfl rfl (fun _ h => h.1 (w2.heap.size, fred (a)) (.tail _ (.tail _ (.tail _ (.head _))))) hH27 ?_
      simp only [Act.put, List.setIfInBounds_toArray, List.set_cons_zero, List.set_cons_succ]
      refine step1 1 (by kernel_rfl) rfl (fun K hK => ?_)
      rw [if_pos (by rfl)]
      go_simp
      refine Calls.mono (Reduce_f (psum (fred (a)) (pp)) (psum_lt _ _) _) ?_
      rintro e w28 ⟨rfl, hg28⟩
      dsimp only
      refine hK.out _ _ (keepE hH27 hg28) (fun hH28 => ?_)
      clear hK K
      clear hH27
      clear hg28
      refine takeV 3 (.bool true) rfl (by kernel_rfl) (by kernel_rfl) (by kernel_rfl) (fun _ _ _ h => h) (by rfl) (fun w _ => exec_eql_same rfl (fred (psum (fred (a)) (pp))) (fred (a)) rfl rfl (fred_lt _) (fred_lt _) (F.fo) w) hH28 ?_
      simp only [Act.put, List.setIfInBounds_toArray, List.set_cons_zero, List.set_cons_succ]
      refine takeV 4 (.bool true) rfl (by kernel_rfl) (by kernel_rfl) (by kernel_rfl) (fun _ _ _ h => h) (by rfl) (fun w _ => rfl) hH28 ?_
      simp only [Act.put, List.setIfInBounds_toArray, List.set_cons_zero, List.set_cons_succ]
      refine wpAnyH_done (by kernel_rfl) ?_ _
      refine NoPanic.normal ?_
      obtain ⟨hE29, hW29⟩ := hH28
      repeat go_step
      go_ret
      exact ⟨rfl, by first | assumption | exact hW29⟩
    · -- operation 3 first
      refine alloc_op rfl (by rfl) (fun w30 hA30 ht30 => ?_)
      simp only [Act.put, List.setIfInBounds_toArray, List.set_cons_zero, List.set_cons_succ]
      refine hK.out _ _ (keepE hH15 hA30) (fun hH30 => ?_)
      clear hK K
      refine step1 2 (by kernel_rfl) rfl (fun K hK => ?_)
      rw [if_pos (by rfl)]
      go_simp
      refine Calls.mono (Add_f (a) (u) ha huM _) ?_
      rintro e w31 ⟨rfl, hg31⟩
      dsimp only
      refine hK.out _ _ (keepE hH30 hg31) (fun hH31 => ?_)
      clear hK K
      have hA31 := grown_trans hA30 hg31
      have ht31 := there_grown ht30 hg31
      clear hA30 ht30
      clear hH30
      clear hg31
      refine step1 4 (by kernel_rfl) rfl (fun K hK => ?_)
      refine store_op (fadd (a) (u)) rfl (by rfl) rfl rfl ht31 hA31 (fun w32 hG32 hr32 => ?_)
      simp only [Act.put]
      refine hK.out _ _ (keepE hH15 hG32) (fun hH32 => ?_)
      clear hK K
      clear hH15 hH31 hG32 hA31 ht31
      refine wpAnyH_done (by kernel_rfl) ?_ _
      refine NoPanic.normal ?_
      obtain ⟨hE33, hW33⟩ := hH32
      have hE34 := hE33.cons hr32
      repeat ((fail_if_success (with_reducible show Code.wp _ (Code.region _ _ _) _ _ _)); go_step)
      refine wp_region_noPanic ?_
      refine wp_region_held_drew (S := fun w' => Holds [(w15.heap.size, fadd (a) (u)), (w12.heap.size, psum (psum (fred (a)) (pp)) (pp)), (w10.heap.size, psum (fred (a)) (pp)), (w2.heap.size, fred (a)), (w0.heap.size, pp), (w.heap.size, a)] w' ∧ Grown w w') (by kernel_rfl) ⟨hE34, hW33⟩ (fun hH35 => ?_)
      clear hE34 hW33
      refine take32 0 (a) (w.heap.size) rfl (by kernel_rfl) (by kernel_rfl) (by kernel_rfl) (fun _ _ _ h => h) (by rfl) rfl rfl (fun _ h => h.1 (w.heap.size, a) (.tail _ (.tail _ (.tail _ (.tail _ (.tail _ (.head _))))))) hH35 ?_
      simp only [Act.put, List.setIfInBounds_toArray, List.set_cons_zero, List.set_cons_succ]
      refine takeV 2 (.pointer (some ⟨w2.heap.size, 0, none⟩)) rfl (by kernel_rfl) (by kernel_rfl) (by kernel_rfl) (fun _ _ _ h => h) (by rfl) (fun w _ => by go_simp) hH35 ?_
      simp only [Act.put, List.setIfInBounds_toArray, List.set_cons_zero, List.set_cons_succ]
      refine takeV 3 (.int .u8 c0) rfl (by kernel_rfl) (by kernel_rfl) (by kernel_rfl) (fun _ _ _ h => h) (by rfl) (fun w h => by have hcc := hcell _ (h.1 (w2.heap.size, fred (a)) (.tail _ (.tail _ (.tail _ (.head _))))); go_simp) hH35 ?_
      simp only [Act.put, List.setIfInBounds_toArray, List.set_cons_zero, List.set_cons_succ]
      refine takeV 4 (.int .u8 ((c0 % 2 : Nat) : Int)) rfl (by kernel_rfl) (by kernel_rfl) (by kernel_rfl) (fun _ _ _ h => h) (by rfl) (fun w _ => exec_rem8 rfl c0 hc0 rfl rfl) hH35 ?_
      simp only [Act.put, List.setIfInBounds_toArray, List.set_cons_zero, List.set_cons_succ]
      refine takeV 5 (.bool od) rfl (by kernel_rfl) (by kernel_rfl) (by kernel_rfl) (fun _ _ _ h => h) (by rfl) (fun w _ => exec_eql8 rfl (c0 % 2) rfl rfl od hod.out) hH35 ?_
      simp only [Act.put, List.setIfInBounds_toArray, List.set_cons_zero, List.set_cons_succ]
      refine step1 1 (by kernel_rfl) rfl (fun K hK => ?_)
      rw [if_pos (by rfl)]
      go_simp
      refine Calls.mono (odd_is (a) ha od (hoa.out) _) ?_
      rintro e w36 ⟨rfl, hg36⟩
      dsimp only
      refine hK.out _ _ (keepE hH35 hg36) (fun hH36 => ?_)
      clear hK K
      clear hH35
      clear hg36
      refine takeV 6 (.bool false) rfl (by kernel_rfl) (by kernel_rfl) (by kernel_rfl) (fun _ _ _ h => h) (by rfl) (fun w _ => by cases od <;> rfl) hH36 ?_
      simp only [Act.put, List.setIfInBounds_toArray, List.set_cons_zero, List.set_cons_succ]
      refine takeV 7 (.bool false) rfl (by kernel_rfl) (by kernel_rfl) (by kernel_rfl) (fun _ _ _ h => h) (by rfl) (fun w _ => rfl) hH36 ?_
      simp only [Act.put, List.setIfInBounds_toArray, List.set_cons_zero, List.set_cons_succ]
      refine take32 8 (a) (w.heap.size) rfl (by kernel_rfl) (by kernel_rfl) (by kernel_rfl) (fun _ _ _ h => h) (by rfl) rfl rfl (fun _ h => h.1 (w.heap.size, a) (.tail _ (.tail _ (.tail _ (.tail _ (.tail _ (.head _))))))) hH36 ?_
      simp only [Act.put, List.setIfInBounds_toArray, List.set_cons_zero, List.set_cons_succ]
      refine take32 9 (fred (a)) (w2.heap.size) rfl (by kernel_rfl) (by kernel_rfl) (by kernel_rfl) (fun _ _ _ h => h) (by rfl) rfl rfl (fun _ h => h.1 (w2.heap.size, fred (a)) (.tail _ (.tail _ (.tail _ (.head _))))) hH36 ?_
      simp only [Act.put, List.setIfInBounds_toArray, List.set_cons_zero, List.set_cons_succ]
      refine step1 10 (by kernel_rfl) rfl (fun K hK => ?_)
      rw [if_pos (by rfl)]
      go_simp
      refine Calls.mono (equal_is (a) (fred (a)) ha (fred_lt _) true (F.ea) _) ?_
      rintro e w37 ⟨rfl, hg37⟩
      dsimp only
      refine hK.out _ _ (keepE hH36 hg37) (fun hH37 => ?_)
      clear hK K
      clear hH36
      clear hg37
      refine takeV 11 (.bool false) rfl (by kernel_rfl) (by kernel_rfl) (by kernel_rfl) (fun _ _ _ h => h) (by rfl) (fun w _ => by first | rfl | go_simp) hH37 ?_
      simp only [Act.put, List.setIfInBounds_toArray, List.set_cons_zero, List.set_cons_succ]
      refine takeV 12 (.bool false) rfl (by kernel_rfl) (by kernel_rfl) (by kernel_rfl) (fun _ _ _ h => h) (by rfl) (fun w _ => rfl) hH37 ?_
      simp only [Act.put, List.setIfInBounds_toArray, List.set_cons_zero, List.set_cons_succ]
      refine takeV 13 (.bool false) rfl (by kernel_rfl) (by kernel_rfl) (by kernel_rfl) (fun _ _ _ h => h) (by rfl) (fun w _ => rfl) hH37 ?_
      simp only [Act.put, List.setIfInBounds_toArray, List.set_cons_zero, List.set_cons_succ]
      refine take32 14 (fred (a)) (w2.heap.size) rfl (by kernel_rfl) (by kernel_rfl) (by kernel_rfl) (fun _ _ _ h => h) (by rfl) rfl rfl (fun _ h => h.1 (w2.heap.size, fred (a)) (.tail _ (.tail _ (.tail _ (.head _))))) hH37 ?_
      simp only [Act.put, List.setIfInBounds_toArray, List.set_cons_zero, List.set_cons_succ]
      refine take32 15 (psum (fred (a)) (pp)) (w10.heap.size) rfl (by kernel_rfl) (by kernel_rfl) (by kernel_rfl) (fun _ _ _ h => h) (by rfl) rfl rfl (fun _ h => h.1 (w10.heap.size, psum (fred (a)) (pp)) (.tail _ (.tail _ (.head _)))) hH37 ?_
      simp only [Act.put, List.setIfInBounds_toArray, List.set_cons_zero, List.set_cons_succ]
      refine step1 16 (by kernel_rfl) rfl (fun K hK => ?_)
      rw [if_pos (by rfl)]
      go_simp
      refine Calls.mono (equal_is (fred (a)) (psum (fred (a)) (pp)) (fred_lt _) (psum_lt _ _) true (F.eo) _) ?_
      rintro e w38 ⟨rfl, hg38⟩
      dsimp only
      refine hK.out _ _ (keepE hH37 hg38) (fun hH38 => ?_)
      clear hK K
      clear hH37
      clear hg38
      refine takeV 17 (.bool false) rfl (by kernel_rfl) (by kernel_rfl) (by kernel_rfl) (fun _ _ _ h => h) (by rfl) (fun w _ => by first | rfl | go_simp) hH38 ?_
      simp only [Act.put, List.setIfInBounds_toArray, List.set_cons_zero, List.set_cons_succ]
      refine takeV 18 (.bool false) rfl (by kernel_rfl) (by kernel_rfl) (by kernel_rfl) (fun _ _ _ h => h) (by rfl) (fun w _ => rfl) hH38 ?_
      simp only [Act.put, List.setIfInBounds_toArray, List.set_cons_zero, List.set_cons_succ]
      refine takeV 19 (.bool false) rfl (by kernel_rfl) (by kernel_rfl) (by kernel_rfl) (fun _ _ _ h => h) (by rfl) (fun w _ => rfl) hH38 ?_
      simp only [Act.put, List.setIfInBounds_toArray, List.set_cons_zero, List.set_cons_succ]
      refine take32 20 (a) (w.heap.size) rfl (by kernel_rfl) (by kernel_rfl) (by kernel_rfl) (fun _ _ _ h => h) (by rfl) rfl rfl (fun _ h => h.1 (w.heap.size, a) (.tail _ (.tail _ (.tail _ (.tail _ (.tail _ (.head _))))))) hH38 ?_
      simp only [Act.put, List.setIfInBounds_toArray, List.set_cons_zero, List.set_cons_succ]
      refine take32 21 (fadd (a) (u)) (w15.heap.size) rfl (by kernel_rfl) (by kernel_rfl) (by kernel_rfl) (fun _ _ _ h => h) (by rfl) rfl rfl (fun _ h => h.1 (w15.heap.size, fadd (a) (u)) (.head _)) hH38 ?_
      simp only [Act.put, List.setIfInBounds_toArray, List.set_cons_zero, List.set_cons_succ]
      refine step1 22 (by kernel_rfl) rfl (fun K hK => ?_)
      rw [if_pos (by rfl)]
      go_simp
      refine Calls.mono (equal_is (a) (fadd (a) (u)) ha (fadd_lt _ _) false (F.en) _) ?_
      rintro e w39 ⟨rfl, hg39⟩
      dsimp only
      refine hK.out _ _ (keepE hH38 hg39) (fun hH39 => ?_)
      clear hK K
      clear hH38
      clear hg39
      refine takeV 23 (.bool false) rfl (by kernel_rfl) (by kernel_rfl) (by kernel_rfl) (fun _ _ _ h => h) (by rfl) (fun w _ => rfl) hH39 ?_
      simp only [Act.put, List.setIfInBounds_toArray, List.set_cons_zero, List.set_cons_succ]
      refine wpAnyH_done (by kernel_rfl) ?_ _
      refine NoPanic.normal ?_
      obtain ⟨hE40, hW40⟩ := hH39
      repeat ((fail_if_success (with_reducible show Code.wp _ (Code.region _ _ _) _ _ _)); go_step)
      refine wp_region_noPanic ?_
      refine wp_region_held_drew (S := fun w' => Holds [(w15.heap.size, fadd (a) (u)), (w12.heap.size, psum (psum (fred (a)) (pp)) (pp)), (w10.heap.size, psum (fred (a)) (pp)), (w2.heap.size, fred (a)), (w0.heap.size, pp), (w.heap.size, a)] w' ∧ Grown w w') (by kernel_rfl) ⟨hE40, hW40⟩ (fun hH41 => ?_)
      clear hE40 hW40
      refine take32 0 (psum (fred (a)) (pp)) (w10.heap.size) rfl (by kernel_rfl) (by kernel_rfl) (by kernel_rfl) (fun _ _ _ h => h) (by rfl) rfl rfl (fun _ h => h.1 (w10.heap.size, psum (fred (a)) (pp)) (.tail _ (.tail _ (.head _)))) hH41 ?_
      simp only [Act.put, List.setIfInBounds_toArray, List.set_cons_zero, List.set_cons_succ]
      refine take32 2 (fred (a)) (w2.heap.size) rfl (by kernel_rfl) (by kernel_rfl) (by kernel_rfl) (fun _ _ _ h => h) (by rfl) rfl rfl (fun _ h => h.1 (w2.heap.size, fred (a)) (.tail _ (.tail _ (.tail _ (.head _))))) hH41 ?_
      simp only [Act.put, List.setIfInBounds_toArray, List.set_cons_zero, List.set_cons_succ]
      refine step1 1 (by kernel_rfl) rfl (fun K hK => ?_)
      rw [if_pos (by rfl)]
      go_simp
      refine Calls.mono (Reduce_f (psum (fred (a)) (pp)) (psum_lt _ _) _) ?_
      rintro e w42 ⟨rfl, hg42⟩
      dsimp only
      refine hK.out _ _ (keepE hH41 hg42) (fun hH42 => ?_)
      clear hK K
      clear hH41
      clear hg42
      refine takeV 3 (.bool true) rfl (by kernel_rfl) (by kernel_rfl) (by kernel_rfl) (fun _ _ _ h => h) (by rfl) (fun w _ => exec_eql_same rfl (fred (psum (fred (a)) (pp))) (fred (a)) rfl rfl (fred_lt _) (fred_lt _) (F.fo) w) hH42 ?_
      simp only [Act.put, List.setIfInBounds_toArray, List.set_cons_zero, List.set_cons_succ]
      refine takeV 4 (.bool true) rfl (by kernel_rfl) (by kernel_rfl) (by kernel_rfl) (fun _ _ _ h => h) (by rfl) (fun w _ => rfl) hH42 ?_
      simp only [Act.put, List.setIfInBounds_toArray, List.set_cons_zero, List.set_cons_succ]
      refine wpAnyH_done (by kernel_rfl) ?_ _
      refine NoPanic.normal ?_
      obtain ⟨hE43, hW43⟩ := hH42
      repeat go_step
      go_ret
      exact ⟨rfl, by first | assumption | exact hW43⟩
  · -- operation 3 first
    refine alloc_op rfl (by rfl) (fun w44 hA44 ht44 => ?_)
    simp only [Act.put, List.setIfInBounds_toArray, List.set_cons_zero, List.set_cons_succ]
    refine hK.out _ _ (keepE hH14 hA44) (fun hH44 => ?_)
    clear hK K
    refine step1 1 (by kernel_rfl) rfl (fun K hK => ?_)
    rw [if_pos (by rfl)]
    go_simp
    refine Calls.mono (number_nat u (by rw [hu.out]; decide) 1 (by rw [hu.out]; rfl) _) ?_
    rintro e w45 ⟨rfl, hg45⟩
    dsimp only
    refine hK.out _ _ (keepE hH44 hg45) (fun hH45 => ?_)
    clear hK K
    have hA45 := grown_trans hA44 hg45
    have ht45 := there_grown ht44 hg45
    clear hA44 ht44
    clear hH44
    clear hg45
    refine step1 2 (by kernel_rfl) rfl (fun K hK => ?_)
    rw [if_pos (by rfl)]
    go_simp
    refine Calls.mono (Add_f (a) (u) ha huM _) ?_
    rintro e w46 ⟨rfl, hg46⟩
    dsimp only
    refine hK.out _ _ (keepE hH45 hg46) (fun hH46 => ?_)
    clear hK K
    have hA46 := grown_trans hA45 hg46
    have ht46 := there_grown ht45 hg46
    clear hA45 ht45
    clear hH45
    clear hg46
    refine step1 4 (by kernel_rfl) rfl (fun K hK => ?_)
    refine store_op (fadd (a) (u)) rfl (by rfl) rfl rfl ht46 hA46 (fun w47 hG47 hr47 => ?_)
    simp only [Act.put]
    refine hK.out _ _ (keepE hH14 hG47) (fun hH47 => ?_)
    clear hK K
    clear hH14 hH46 hG47 hA46 ht46
    refine wpAnyH_done (by kernel_rfl) ?_ _
    refine NoPanic.normal ?_
    obtain ⟨hE48, hW48⟩ := hH47
    have hE49 := hE48.cons hr47
    repeat ((fail_if_success (with_reducible show Code.wp _ (Code.region _ _ _) _ _ _)); go_step)
    refine wp_region_noPanic ?_
    refine wp_region_held_drew (S := fun w' => Holds [(w13.heap.size, fadd (a) (u)), (w12.heap.size, psum (psum (fred (a)) (pp)) (pp)), (w10.heap.size, psum (fred (a)) (pp)), (w2.heap.size, fred (a)), (w0.heap.size, pp), (w.heap.size, a)] w' ∧ Grown w w') (by kernel_rfl) ⟨hE49, hW48⟩ (fun hH50 => ?_)
    clear hE49 hW48
    refine take32 0 (a) (w.heap.size) rfl (by kernel_rfl) (by kernel_rfl) (by kernel_rfl) (fun _ _ _ h => h) (by rfl) rfl rfl (fun _ h => h.1 (w.heap.size, a) (.tail _ (.tail _ (.tail _ (.tail _ (.tail _ (.head _))))))) hH50 ?_
    simp only [Act.put, List.setIfInBounds_toArray, List.set_cons_zero, List.set_cons_succ]
    refine takeV 2 (.pointer (some ⟨w2.heap.size, 0, none⟩)) rfl (by kernel_rfl) (by kernel_rfl) (by kernel_rfl) (fun _ _ _ h => h) (by rfl) (fun w _ => by go_simp) hH50 ?_
    simp only [Act.put, List.setIfInBounds_toArray, List.set_cons_zero, List.set_cons_succ]
    refine takeV 3 (.int .u8 c0) rfl (by kernel_rfl) (by kernel_rfl) (by kernel_rfl) (fun _ _ _ h => h) (by rfl) (fun w h => by have hcc := hcell _ (h.1 (w2.heap.size, fred (a)) (.tail _ (.tail _ (.tail _ (.head _))))); go_simp) hH50 ?_
    simp only [Act.put, List.setIfInBounds_toArray, List.set_cons_zero, List.set_cons_succ]
    refine takeV 4 (.int .u8 ((c0 % 2 : Nat) : Int)) rfl (by kernel_rfl) (by kernel_rfl) (by kernel_rfl) (fun _ _ _ h => h) (by rfl) (fun w _ => exec_rem8 rfl c0 hc0 rfl rfl) hH50 ?_
    simp only [Act.put, List.setIfInBounds_toArray, List.set_cons_zero, List.set_cons_succ]
    refine takeV 5 (.bool od) rfl (by kernel_rfl) (by kernel_rfl) (by kernel_rfl) (fun _ _ _ h => h) (by rfl) (fun w _ => exec_eql8 rfl (c0 % 2) rfl rfl od hod.out) hH50 ?_
    simp only [Act.put, List.setIfInBounds_toArray, List.set_cons_zero, List.set_cons_succ]
    refine step1 1 (by kernel_rfl) rfl (fun K hK => ?_)
    rw [if_pos (by rfl)]
    go_simp
    refine Calls.mono (odd_is (a) ha od (hoa.out) _) ?_
    rintro e w51 ⟨rfl, hg51⟩
    dsimp only
    refine hK.out _ _ (keepE hH50 hg51) (fun hH51 => ?_)
    clear hK K
    clear hH50
    clear hg51
    refine takeV 6 (.bool false) rfl (by kernel_rfl) (by kernel_rfl) (by kernel_rfl) (fun _ _ _ h => h) (by rfl) (fun w _ => by cases od <;> rfl) hH51 ?_
    simp only [Act.put, List.setIfInBounds_toArray, List.set_cons_zero, List.set_cons_succ]
    refine takeV 7 (.bool false) rfl (by kernel_rfl) (by kernel_rfl) (by kernel_rfl) (fun _ _ _ h => h) (by rfl) (fun w _ => rfl) hH51 ?_
    simp only [Act.put, List.setIfInBounds_toArray, List.set_cons_zero, List.set_cons_succ]
    refine take32 8 (a) (w.heap.size) rfl (by kernel_rfl) (by kernel_rfl) (by kernel_rfl) (fun _ _ _ h => h) (by rfl) rfl rfl (fun _ h => h.1 (w.heap.size, a) (.tail _ (.tail _ (.tail _ (.tail _ (.tail _ (.head _))))))) hH51 ?_
    simp only [Act.put, List.setIfInBounds_toArray, List.set_cons_zero, List.set_cons_succ]
    refine take32 9 (fred (a)) (w2.heap.size) rfl (by kernel_rfl) (by kernel_rfl) (by kernel_rfl) (fun _ _ _ h => h) (by rfl) rfl rfl (fun _ h => h.1 (w2.heap.size, fred (a)) (.tail _ (.tail _ (.tail _ (.head _))))) hH51 ?_
    simp only [Act.put, List.setIfInBounds_toArray, List.set_cons_zero, List.set_cons_succ]
    refine step1 10 (by kernel_rfl) rfl (fun K hK => ?_)
    rw [if_pos (by rfl)]
    go_simp
    refine Calls.mono (equal_is (a) (fred (a)) ha (fred_lt _) true (F.ea) _) ?_
    rintro e w52 ⟨rfl, hg52⟩
    dsimp only
    refine hK.out _ _ (keepE hH51 hg52) (fun hH52 => ?_)
    clear hK K
    clear hH51
    clear hg52
    refine takeV 11 (.bool false) rfl (by kernel_rfl) (by kernel_rfl) (by kernel_rfl) (fun _ _ _ h => h) (by rfl) (fun w _ => by first | rfl | go_simp) hH52 ?_
    simp only [Act.put, List.setIfInBounds_toArray, List.set_cons_zero, List.set_cons_succ]
    refine takeV 12 (.bool false) rfl (by kernel_rfl) (by kernel_rfl) (by kernel_rfl) (fun _ _ _ h => h) (by rfl) (fun w _ => rfl) hH52 ?_
    simp only [Act.put, List.setIfInBounds_toArray, List.set_cons_zero, List.set_cons_succ]
    refine takeV 13 (.bool false) rfl (by kernel_rfl) (by kernel_rfl) (by kernel_rfl) (fun _ _ _ h => h) (by rfl) (fun w _ => rfl) hH52 ?_
    simp only [Act.put, List.setIfInBounds_toArray, List.set_cons_zero, List.set_cons_succ]
    refine take32 14 (fred (a)) (w2.heap.size) rfl (by kernel_rfl) (by kernel_rfl) (by kernel_rfl) (fun _ _ _ h => h) (by rfl) rfl rfl (fun _ h => h.1 (w2.heap.size, fred (a)) (.tail _ (.tail _ (.tail _ (.head _))))) hH52 ?_
    simp only [Act.put, List.setIfInBounds_toArray, List.set_cons_zero, List.set_cons_succ]
    refine take32 15 (psum (fred (a)) (pp)) (w10.heap.size) rfl (by kernel_rfl) (by kernel_rfl) (by kernel_rfl) (fun _ _ _ h => h) (by rfl) rfl rfl (fun _ h => h.1 (w10.heap.size, psum (fred (a)) (pp)) (.tail _ (.tail _ (.head _)))) hH52 ?_
    simp only [Act.put, List.setIfInBounds_toArray, List.set_cons_zero, List.set_cons_succ]
    refine step1 16 (by kernel_rfl) rfl (fun K hK => ?_)
    rw [if_pos (by rfl)]
    go_simp
    refine Calls.mono (equal_is (fred (a)) (psum (fred (a)) (pp)) (fred_lt _) (psum_lt _ _) true (F.eo) _) ?_
    rintro e w53 ⟨rfl, hg53⟩
    dsimp only
    refine hK.out _ _ (keepE hH52 hg53) (fun hH53 => ?_)
    clear hK K
    clear hH52
    clear hg53
    refine takeV 17 (.bool false) rfl (by kernel_rfl) (by kernel_rfl) (by kernel_rfl) (fun _ _ _ h => h) (by rfl) (fun w _ => by first | rfl | go_simp) hH53 ?_
    simp only [Act.put, List.setIfInBounds_toArray, List.set_cons_zero, List.set_cons_succ]
    refine takeV 18 (.bool false) rfl (by kernel_rfl) (by kernel_rfl) (by kernel_rfl) (fun _ _ _ h => h) (by rfl) (fun w _ => rfl) hH53 ?_
    simp only [Act.put, List.setIfInBounds_toArray, List.set_cons_zero, List.set_cons_succ]
    refine takeV 19 (.bool false) rfl (by kernel_rfl) (by kernel_rfl) (by kernel_rfl) (fun _ _ _ h => h) (by rfl) (fun w _ => rfl) hH53 ?_
    simp only [Act.put, List.setIfInBounds_toArray, List.set_cons_zero, List.set_cons_succ]
    refine take32 20 (a) (w.heap.size) rfl (by kernel_rfl) (by kernel_rfl) (by kernel_rfl) (fun _ _ _ h => h) (by rfl) rfl rfl (fun _ h => h.1 (w.heap.size, a) (.tail _ (.tail _ (.tail _ (.tail _ (.tail _ (.head _))))))) hH53 ?_
    simp only [Act.put, List.setIfInBounds_toArray, List.set_cons_zero, List.set_cons_succ]
    refine take32 21 (fadd (a) (u)) (w13.heap.size) rfl (by kernel_rfl) (by kernel_rfl) (by kernel_rfl) (fun _ _ _ h => h) (by rfl) rfl rfl (fun _ h => h.1 (w13.heap.size, fadd (a) (u)) (.head _)) hH53 ?_
    simp only [Act.put, List.setIfInBounds_toArray, List.set_cons_zero, List.set_cons_succ]
    refine step1 22 (by kernel_rfl) rfl (fun K hK => ?_)
    rw [if_pos (by rfl)]
    go_simp
    refine Calls.mono (equal_is (a) (fadd (a) (u)) ha (fadd_lt _ _) false (F.en) _) ?_
    rintro e w54 ⟨rfl, hg54⟩
    dsimp only
    refine hK.out _ _ (keepE hH53 hg54) (fun hH54 => ?_)
    clear hK K
    clear hH53
    clear hg54
    refine takeV 23 (.bool false) rfl (by kernel_rfl) (by kernel_rfl) (by kernel_rfl) (fun _ _ _ h => h) (by rfl) (fun w _ => rfl) hH54 ?_
    simp only [Act.put, List.setIfInBounds_toArray, List.set_cons_zero, List.set_cons_succ]
    refine wpAnyH_done (by kernel_rfl) ?_ _
    refine NoPanic.normal ?_
    obtain ⟨hE55, hW55⟩ := hH54
    repeat ((fail_if_success (with_reducible show Code.wp _ (Code.region _ _ _) _ _ _)); go_step)
    refine wp_region_noPanic ?_
    refine wp_region_held_drew (S := fun w' => Holds [(w13.heap.size, fadd (a) (u)), (w12.heap.size, psum (psum (fred (a)) (pp)) (pp)), (w10.heap.size, psum (fred (a)) (pp)), (w2.heap.size, fred (a)), (w0.heap.size, pp), (w.heap.size, a)] w' ∧ Grown w w') (by kernel_rfl) ⟨hE55, hW55⟩ (fun hH56 => ?_)
    clear hE55 hW55
    refine take32 0 (psum (fred (a)) (pp)) (w10.heap.size) rfl (by kernel_rfl) (by kernel_rfl) (by kernel_rfl) (fun _ _ _ h => h) (by rfl) rfl rfl (fun _ h => h.1 (w10.heap.size, psum (fred (a)) (pp)) (.tail _ (.tail _ (.head _)))) hH56 ?_
    simp only [Act.put, List.setIfInBounds_toArray, List.set_cons_zero, List.set_cons_succ]
    refine take32 2 (fred (a)) (w2.heap.size) rfl (by kernel_rfl) (by kernel_rfl) (by kernel_rfl) (fun _ _ _ h => h) (by rfl) rfl rfl (fun _ h => h.1 (w2.heap.size, fred (a)) (.tail _ (.tail _ (.tail _ (.head _))))) hH56 ?_
    simp only [Act.put, List.setIfInBounds_toArray, List.set_cons_zero, List.set_cons_succ]
    refine step1 1 (by kernel_rfl) rfl (fun K hK => ?_)
    rw [if_pos (by rfl)]
    go_simp
    refine Calls.mono (Reduce_f (psum (fred (a)) (pp)) (psum_lt _ _) _) ?_
    rintro e w57 ⟨rfl, hg57⟩
    dsimp only
    refine hK.out _ _ (keepE hH56 hg57) (fun hH57 => ?_)
    clear hK K
    clear hH56
    clear hg57
    refine takeV 3 (.bool true) rfl (by kernel_rfl) (by kernel_rfl) (by kernel_rfl) (fun _ _ _ h => h) (by rfl) (fun w _ => exec_eql_same rfl (fred (psum (fred (a)) (pp))) (fred (a)) rfl rfl (fred_lt _) (fred_lt _) (F.fo) w) hH57 ?_
    simp only [Act.put, List.setIfInBounds_toArray, List.set_cons_zero, List.set_cons_succ]
    refine takeV 4 (.bool true) rfl (by kernel_rfl) (by kernel_rfl) (by kernel_rfl) (fun _ _ _ h => h) (by rfl) (fun w _ => rfl) hH57 ?_
    simp only [Act.put, List.setIfInBounds_toArray, List.set_cons_zero, List.set_cons_succ]
    refine wpAnyH_done (by kernel_rfl) ?_ _
    refine NoPanic.normal ?_
    obtain ⟨hE58, hW58⟩ := hH57
    repeat go_step
    go_ret
    exact ⟨rfl, by first | assumption | exact hW58⟩

set_option maxRecDepth 100000 in
set_option maxHeartbeats 8000000 in
theorem canon_walkC (a u c0 pp : Nat) (od : Bool) (ha : a < M) (hpp : Hid (pp = p)) (hppM : pp < M) (hu : Hid (u = 1)) (huM : u < M) (hc0 : c0 < 256) (hcell : ∀ (wr : World) {b : Nat}, wr.rangeAt b 0 (bl (fred a)) → wr.cell? ⟨b, 0, none⟩ = some (.int .u8 (c0 : Int)))
    (hod : Hid (decide (c0 % 2 = 1) = od)) (hoa : Hid (decide (a % p % 2 = 1) = od)) (F : Facts a u pp) (hlt : Hid (decide (a < p) = false)) (hlt2 : Hid (decide (a < pp) = false)) (h1 : Hid (¬ a = fred a)) (h2 : Hid (¬ a = psum (fred a) pp)) (h3 : Hid (a = psum (psum (fred a) pp) pp)) (w : World) :
    Calls Try.prog 4 #[bv a] w fun e w' => e = .returned (.bool true) ∧ Grown w w' := by
  rw [bv]
  go_enter Try.func4, Try.ntmps4
  go_wp2_with fail
  obtain ⟨hE0, hW0⟩ := params1 w a
  generalize (w.alloc (Obj.cells (bl a).toArray 22)) = W0 at hE0 hW0 ⊢
  refine Calls.mono (prime_is pp hpp.out _) ?_
  rintro e w0 ⟨rfl, hg0⟩
  dsimp only
  go_step
  have hE00 := hE0.grown hg0
  have hW00 := grown_trans hW0 hg0
  clear hE0 hW0 hg0
  go_wp2_with (with_reducible show wpList _ _ _ ({ dst := _, op := Op.store 22 _ _, type := _, pos := _, after := _, guard := _ } :: _) _ _; refine Shut.out ?_)
  show wpList _ _ _ _ _ _
  refine wpList_store_new (pp) (by simp) rfl rfl rfl rfl (fun w1 hg1 hr1 _ => ?_)
  simp only [Act.put]
  have hE1 := (hE00.grown hg1).cons hr1
  have hW1 := grown_trans hW00 hg1
  clear hE00 hW00 hg1 hr1
  apply wpList_nil
  repeat ((fail_if_success (with_reducible show Code.wp _ (Code.region _ _ _) _ _ _)); go_step)
  apply wp_region_lit
  refine wpList_load32 rfl _ rfl _ rfl (a) (hE1 (w.heap.size, a) (.tail _ (.head _))) ?_
  simp only [Act.put, List.setIfInBounds_toArray, List.set_cons_zero, List.set_cons_succ]
  go_wp2_with fail
  refine Calls.mono (Reduce_f (a) ha _) ?_
  rintro e w2 ⟨rfl, hg2⟩
  dsimp only
  go_step
  have hE2 := hE1.grown hg2
  have hW2 := grown_trans hW1 hg2
  clear hE1 hW1 hg2
  go_wp2_with (with_reducible show wpList _ _ _ ({ dst := _, op := Op.store 22 _ _, type := _, pos := _, after := _, guard := _ } :: _) _ _; refine Shut.out ?_)
  show wpList _ _ _ _ _ _
  refine wpList_store_new (fred (a)) (by simp) rfl rfl rfl rfl (fun w3 hg3 hr3 _ => ?_)
  simp only [Act.put]
  have hE3 := (hE2.grown hg3).cons hr3
  have hW3 := grown_trans hW2 hg3
  clear hE2 hW2 hg3 hr3
  apply wpList_nil
  repeat ((fail_if_success (with_reducible show Code.wp _ (Code.region _ _ _) _ _ _)); go_step)
  refine wp_region_noPanic ?_
  refine wp_region_held_drew (S := fun w' => Holds [(w2.heap.size, fred (a)), (w0.heap.size, pp), (w.heap.size, a)] w' ∧ Grown w w') (by kernel_rfl) ⟨hE3, hW3⟩ (fun hH4 => ?_)
  clear hE3 hW3
  refine take32 0 (fred (a)) (w2.heap.size) rfl (by kernel_rfl) (by kernel_rfl) (by kernel_rfl) (fun _ _ _ h => h) (by rfl) rfl rfl (fun _ h => h.1 (w2.heap.size, fred (a)) (.head _)) hH4 ?_
  simp only [Act.put, List.setIfInBounds_toArray, List.set_cons_zero, List.set_cons_succ]
  refine take32 1 (pp) (w0.heap.size) rfl (by kernel_rfl) (by kernel_rfl) (by kernel_rfl) (fun _ _ _ h => h) (by rfl) rfl rfl (fun _ h => h.1 (w0.heap.size, pp) (.tail _ (.head _))) hH4 ?_
  simp only [Act.put, List.setIfInBounds_toArray, List.set_cons_zero, List.set_cons_succ]
  refine step1 2 (by kernel_rfl) rfl (fun K hK => ?_)
  rw [if_pos (by rfl)]
  go_simp
  refine Calls.mono (less_is (fred (a)) (pp) (fred_lt _) hppM true (F.rl') _) ?_
  rintro e w5 ⟨rfl, hg5⟩
  dsimp only
  refine hK.out _ _ (keepE hH4 hg5) (fun hH5 => ?_)
  clear hK K
  clear hH4
  clear hg5
  refine takeV 3 (.bool false) rfl (by kernel_rfl) (by kernel_rfl) (by kernel_rfl) (fun _ _ _ h => h) (by rfl) (fun w _ => by first | rfl | go_simp) hH5 ?_
  simp only [Act.put, List.setIfInBounds_toArray, List.set_cons_zero, List.set_cons_succ]
  refine takeV 4 (.bool false) rfl (by kernel_rfl) (by kernel_rfl) (by kernel_rfl) (fun _ _ _ h => h) (by rfl) (fun w _ => rfl) hH5 ?_
  simp only [Act.put, List.setIfInBounds_toArray, List.set_cons_zero, List.set_cons_succ]
  refine take32 5 (a) (w.heap.size) rfl (by kernel_rfl) (by kernel_rfl) (by kernel_rfl) (fun _ _ _ h => h) (by rfl) rfl rfl (fun _ h => h.1 (w.heap.size, a) (.tail _ (.tail _ (.head _)))) hH5 ?_
  simp only [Act.put, List.setIfInBounds_toArray, List.set_cons_zero, List.set_cons_succ]
  refine take32 7 (a) (w.heap.size) rfl (by kernel_rfl) (by kernel_rfl) (by kernel_rfl) (fun _ _ _ h => h) (by rfl) rfl rfl (fun _ h => h.1 (w.heap.size, a) (.tail _ (.tail _ (.head _)))) hH5 ?_
  simp only [Act.put, List.setIfInBounds_toArray, List.set_cons_zero, List.set_cons_succ]
  refine take32 8 (pp) (w0.heap.size) rfl (by kernel_rfl) (by kernel_rfl) (by kernel_rfl) (fun _ _ _ h => h) (by rfl) rfl rfl (fun _ h => h.1 (w0.heap.size, pp) (.tail _ (.head _))) hH5 ?_
  simp only [Act.put, List.setIfInBounds_toArray, List.set_cons_zero, List.set_cons_succ]
  refine step1 6 (by kernel_rfl) rfl (fun K hK => ?_)
  rw [if_pos (by rfl)]
  go_simp
  refine Calls.mono (canon_is (a) ha false (hlt.out) _) ?_
  rintro e w6 ⟨rfl, hg6⟩
  dsimp only
  refine hK.out _ _ (keepE hH5 hg6) (fun hH6 => ?_)
  clear hK K
  clear hH5
  clear hg6
  refine step1 9 (by kernel_rfl) rfl (fun K hK => ?_)
  rw [if_pos (by rfl)]
  go_simp
  refine Calls.mono (less_is (a) (pp) ha hppM false (hlt2.out) _) ?_
  rintro e w7 ⟨rfl, hg7⟩
  dsimp only
  refine hK.out _ _ (keepE hH6 hg7) (fun hH7 => ?_)
  clear hK K
  clear hH6
  clear hg7
  refine takeV 10 (.bool false) rfl (by kernel_rfl) (by kernel_rfl) (by kernel_rfl) (fun _ _ _ h => h) (by rfl) (fun w _ => by first | rfl | go_simp) hH7 ?_
  simp only [Act.put, List.setIfInBounds_toArray, List.set_cons_zero, List.set_cons_succ]
  refine takeV 11 (.bool false) rfl (by kernel_rfl) (by kernel_rfl) (by kernel_rfl) (fun _ _ _ h => h) (by rfl) (fun w _ => rfl) hH7 ?_
  simp only [Act.put, List.setIfInBounds_toArray, List.set_cons_zero, List.set_cons_succ]
  refine takeV 12 (.bool false) rfl (by kernel_rfl) (by kernel_rfl) (by kernel_rfl) (fun _ _ _ h => h) (by rfl) (fun w _ => rfl) hH7 ?_
  simp only [Act.put, List.setIfInBounds_toArray, List.set_cons_zero, List.set_cons_succ]
  refine take32 13 (fred (a)) (w2.heap.size) rfl (by kernel_rfl) (by kernel_rfl) (by kernel_rfl) (fun _ _ _ h => h) (by rfl) rfl rfl (fun _ h => h.1 (w2.heap.size, fred (a)) (.head _)) hH7 ?_
  simp only [Act.put, List.setIfInBounds_toArray, List.set_cons_zero, List.set_cons_succ]
  refine step1 14 (by kernel_rfl) rfl (fun K hK => ?_)
  rw [if_pos (by rfl)]
  go_simp
  refine Calls.mono (canon_is (fred (a)) (fred_lt _) true (F.rl) _) ?_
  rintro e w8 ⟨rfl, hg8⟩
  dsimp only
  refine hK.out _ _ (keepE hH7 hg8) (fun hH8 => ?_)
  clear hK K
  clear hH7
  clear hg8
  refine takeV 15 (.bool false) rfl (by kernel_rfl) (by kernel_rfl) (by kernel_rfl) (fun _ _ _ h => h) (by rfl) (fun w _ => by first | rfl | go_simp) hH8 ?_
  simp only [Act.put, List.setIfInBounds_toArray, List.set_cons_zero, List.set_cons_succ]
  refine takeV 16 (.bool false) rfl (by kernel_rfl) (by kernel_rfl) (by kernel_rfl) (fun _ _ _ h => h) (by rfl) (fun w _ => rfl) hH8 ?_
  simp only [Act.put, List.setIfInBounds_toArray, List.set_cons_zero, List.set_cons_succ]
  refine wpAnyH_done (by kernel_rfl) ?_ _
  refine NoPanic.normal ?_
  obtain ⟨hE9, hW9⟩ := hH8
  repeat ((fail_if_success (with_reducible show Code.wp _ (Code.region _ _ _) _ _ _)); go_step)
  apply wp_region_lit
  refine wpList_load32 rfl _ rfl _ rfl (fred (a)) (hE9 (w2.heap.size, fred (a)) (.head _)) ?_
  simp only [Act.put, List.setIfInBounds_toArray, List.set_cons_zero, List.set_cons_succ]
  refine wpList_load32 rfl _ rfl _ rfl (pp) (hE9 (w0.heap.size, pp) (.tail _ (.head _))) ?_
  simp only [Act.put, List.setIfInBounds_toArray, List.set_cons_zero, List.set_cons_succ]
  go_wp2_with fail
  refine Calls.mono (lawplus_f (fred (a)) (pp) _) ?_
  rintro e w10 ⟨⟨cc10, rfl⟩, hg10⟩
  dsimp only
  go_step
  have hE10 := hE9.grown hg10
  have hW10 := grown_trans hW9 hg10
  clear hE9 hW9 hg10
  refine wpList_val (.tuple #[bv (psum (fred (a)) (pp)), .int .i64 cc10]) rfl rfl ?_
  simp only [Act.put, List.setIfInBounds_toArray, List.set_cons_zero, List.set_cons_succ]
  refine wpList_val (bv (psum (fred (a)) (pp))) rfl rfl ?_
  simp only [Act.put, List.setIfInBounds_toArray, List.set_cons_zero, List.set_cons_succ]
  refine wpList_val (.int .i64 cc10) rfl rfl ?_
  simp only [Act.put, List.setIfInBounds_toArray, List.set_cons_zero, List.set_cons_succ]
  go_wp2_with (with_reducible show wpList _ _ _ ({ dst := _, op := Op.store 22 _ _, type := _, pos := _, after := _, guard := _ } :: _) _ _; refine Shut.out ?_)
  show wpList _ _ _ _ _ _
  refine wpList_store_new (psum (fred (a)) (pp)) (by simp) rfl rfl rfl rfl (fun w11 hg11 hr11 _ => ?_)
  simp only [Act.put]
  have hE11 := (hE10.grown hg11).cons hr11
  have hW11 := grown_trans hW10 hg11
  clear hE10 hW10 hg11 hr11
  refine wpList_val (.int .i64 (cc10)) rfl rfl ?_
  simp only [Act.put, List.setIfInBounds_toArray, List.set_cons_zero, List.set_cons_succ]
  apply wpList_nil
  repeat ((fail_if_success (with_reducible show Code.wp _ (Code.region _ _ _) _ _ _)); go_step)
  apply wp_region_lit
  refine wpList_load32 rfl _ rfl _ rfl (psum (fred (a)) (pp)) (hE11 (w10.heap.size, psum (fred (a)) (pp)) (.head _)) ?_
  simp only [Act.put, List.setIfInBounds_toArray, List.set_cons_zero, List.set_cons_succ]
  refine wpList_load32 rfl _ rfl _ rfl (pp) (hE11 (w0.heap.size, pp) (.tail _ (.tail _ (.head _)))) ?_
  simp only [Act.put, List.setIfInBounds_toArray, List.set_cons_zero, List.set_cons_succ]
  go_wp2_with fail
  refine Calls.mono (lawplus_f (psum (fred (a)) (pp)) (pp) _) ?_
  rintro e w12 ⟨⟨cc12, rfl⟩, hg12⟩
  dsimp only
  go_step
  have hE12 := hE11.grown hg12
  have hW12 := grown_trans hW11 hg12
  clear hE11 hW11 hg12
  refine wpList_val (.tuple #[bv (psum (psum (fred (a)) (pp)) (pp)), .int .i64 cc12]) rfl rfl ?_
  simp only [Act.put, List.setIfInBounds_toArray, List.set_cons_zero, List.set_cons_succ]
  refine wpList_val (bv (psum (psum (fred (a)) (pp)) (pp))) rfl rfl ?_
  simp only [Act.put, List.setIfInBounds_toArray, List.set_cons_zero, List.set_cons_succ]
  refine wpList_val (.int .i64 cc12) rfl rfl ?_
  simp only [Act.put, List.setIfInBounds_toArray, List.set_cons_zero, List.set_cons_succ]
  go_wp2_with (with_reducible show wpList _ _ _ ({ dst := _, op := Op.store 22 _ _, type := _, pos := _, after := _, guard := _ } :: _) _ _; refine Shut.out ?_)
  show wpList _ _ _ _ _ _
  refine wpList_store_new (psum (psum (fred (a)) (pp)) (pp)) (by simp) rfl rfl rfl rfl (fun w13 hg13 hr13 _ => ?_)
  simp only [Act.put]
  have hE13 := (hE12.grown hg13).cons hr13
  have hW13 := grown_trans hW12 hg13
  clear hE12 hW12 hg13 hr13
  refine wpList_val (.int .i64 (cc12)) rfl rfl ?_
  simp only [Act.put, List.setIfInBounds_toArray, List.set_cons_zero, List.set_cons_succ]
  apply wpList_nil
  repeat ((fail_if_success (with_reducible show Code.wp _ (Code.region _ _ _) _ _ _)); go_step)
  apply wp_region_lit
  refine wpList_load32 rfl _ rfl _ rfl (a) (hE13 (w.heap.size, a) (.tail _ (.tail _ (.tail _ (.tail _ (.head _)))))) ?_
  simp only [Act.put, List.setIfInBounds_toArray, List.set_cons_zero, List.set_cons_succ]
  refine wpList_load32 rfl _ rfl _ rfl (fred (a)) (hE13 (w2.heap.size, fred (a)) (.tail _ (.tail _ (.head _)))) ?_
  simp only [Act.put, List.setIfInBounds_toArray, List.set_cons_zero, List.set_cons_succ]
  refine wpList_val (.bool true) rfl (exec_neq_apart rfl (a) (fred (a)) rfl rfl ha (fred_lt _) (h1.out) _) ?_
  simp only [Act.put, List.setIfInBounds_toArray, List.set_cons_zero, List.set_cons_succ]
  refine wpList_val (.bool true) rfl rfl ?_
  simp only [Act.put, List.setIfInBounds_toArray, List.set_cons_zero, List.set_cons_succ]
  refine wpList_load32G (by rfl) _ rfl _ rfl (a) (hE13 (w.heap.size, a) (.tail _ (.tail _ (.tail _ (.tail _ (.head _)))))) ?_
  simp only [Act.put, List.setIfInBounds_toArray, List.set_cons_zero, List.set_cons_succ]
  refine wpList_load32G (by rfl) _ rfl _ rfl (psum (fred (a)) (pp)) (hE13 (w10.heap.size, psum (fred (a)) (pp)) (.tail _ (.head _))) ?_
  simp only [Act.put, List.setIfInBounds_toArray, List.set_cons_zero, List.set_cons_succ]
  refine wpList_valG (.bool true) (by rfl) (exec_neq_apart rfl (a) (psum (fred (a)) (pp)) rfl rfl ha (psum_lt _ _) (h2.out) _) ?_
  simp only [Act.put, List.setIfInBounds_toArray, List.set_cons_zero, List.set_cons_succ]
  refine wpList_val (.bool true) rfl rfl ?_
  simp only [Act.put, List.setIfInBounds_toArray, List.set_cons_zero, List.set_cons_succ]
  refine wpList_val (.bool true) rfl rfl ?_
  simp only [Act.put, List.setIfInBounds_toArray, List.set_cons_zero, List.set_cons_succ]
  refine wpList_load32G (by rfl) _ rfl _ rfl (a) (hE13 (w.heap.size, a) (.tail _ (.tail _ (.tail _ (.tail _ (.head _)))))) ?_
  simp only [Act.put, List.setIfInBounds_toArray, List.set_cons_zero, List.set_cons_succ]
  refine wpList_load32G (by rfl) _ rfl _ rfl (psum (psum (fred (a)) (pp)) (pp)) (hE13 (w12.heap.size, psum (psum (fred (a)) (pp)) (pp)) (.head _)) ?_
  simp only [Act.put, List.setIfInBounds_toArray, List.set_cons_zero, List.set_cons_succ]
  refine wpList_valG (.bool false) (by rfl) (exec_neq_same rfl (a) (psum (psum (fred (a)) (pp)) (pp)) rfl rfl ha (psum_lt _ _) (h3.out) _) ?_
  simp only [Act.put, List.setIfInBounds_toArray, List.set_cons_zero, List.set_cons_succ]
  refine wpList_val (.bool false) rfl rfl ?_
  simp only [Act.put, List.setIfInBounds_toArray, List.set_cons_zero, List.set_cons_succ]
  apply wpList_nil
  repeat ((fail_if_success (with_reducible show Code.wp _ (Code.region _ _ _) _ _ _)); go_step)
  refine wp_region_noPanic ?_
  refine wp_region_held_drew (S := fun w' => Holds [(w12.heap.size, psum (psum (fred (a)) (pp)) (pp)), (w10.heap.size, psum (fred (a)) (pp)), (w2.heap.size, fred (a)), (w0.heap.size, pp), (w.heap.size, a)] w' ∧ Grown w w') (by kernel_rfl) ⟨hE13, hW13⟩ (fun hH14 => ?_)
  clear hE13 hW13
  refine take32 0 (a) (w.heap.size) rfl (by kernel_rfl) (by kernel_rfl) (by kernel_rfl) (fun _ _ _ h => h) (by rfl) rfl rfl (fun _ h => h.1 (w.heap.size, a) (.tail _ (.tail _ (.tail _ (.tail _ (.head _)))))) hH14 ?_
  simp only [Act.put, List.setIfInBounds_toArray, List.set_cons_zero, List.set_cons_succ]
  refine step2 1 3 (by kernel_rfl) rfl rfl (fun K hK => ?_) (fun K hK => ?_)
  · -- operation 1 first
    rw [if_pos (by rfl)]
    go_simp
    refine Calls.mono (number_nat u (by rw [hu.out]; decide) 1 (by rw [hu.out]; rfl) _) ?_
    rintro e w15 ⟨rfl, hg15⟩
    dsimp only
    refine hK.out _ _ (keepE hH14 hg15) (fun hH15 => ?_)
    clear hK K
    clear hH14
    clear hg15
    refine step2 2 3 (by kernel_rfl) rfl rfl (fun K hK => ?_) (fun K hK => ?_)
    · -- operation 2 first
      rw [if_pos (by rfl)]
      go_simp
      refine Calls.mono (Add_f (a) (u) ha huM _) ?_
      rintro e w16 ⟨rfl, hg16⟩
      dsimp only
      refine hK.out _ _ (keepE hH15 hg16) (fun hH16 => ?_)
      clear hK K
      clear hH15
      clear hg16
      refine step1 3 (by kernel_rfl) rfl (fun K hK => ?_)
      refine alloc_op rfl (by rfl) (fun w17 hA17 ht17 => ?_)
      simp only [Act.put, List.setIfInBounds_toArray, List.set_cons_zero, List.set_cons_succ]
      refine hK.out _ _ (keepE hH16 hA17) (fun hH17 => ?_)
      clear hK K
      refine step1 4 (by kernel_rfl) rfl (fun K hK => ?_)
      refine store_op (fadd (a) (u)) rfl (by rfl) rfl rfl ht17 hA17 (fun w18 hG18 hr18 => ?_)
      simp only [Act.put]
      refine hK.out _ _ (keepE hH16 hG18) (fun hH18 => ?_)
      clear hK K
      clear hH16 hH17 hG18 hA17 ht17
      refine wpAnyH_done (by kernel_rfl) ?_ _
      refine NoPanic.normal ?_
      obtain ⟨hE19, hW19⟩ := hH18
      have hE20 := hE19.cons hr18
      repeat ((fail_if_success (with_reducible show Code.wp _ (Code.region _ _ _) _ _ _)); go_step)
      refine wp_region_noPanic ?_
      refine wp_region_held_drew (S := fun w' => Holds [(w16.heap.size, fadd (a) (u)), (w12.heap.size, psum (psum (fred (a)) (pp)) (pp)), (w10.heap.size, psum (fred (a)) (pp)), (w2.heap.size, fred (a)), (w0.heap.size, pp), (w.heap.size, a)] w' ∧ Grown w w') (by kernel_rfl) ⟨hE20, hW19⟩ (fun hH21 => ?_)
      clear hE20 hW19
      refine take32 0 (a) (w.heap.size) rfl (by kernel_rfl) (by kernel_rfl) (by kernel_rfl) (fun _ _ _ h => h) (by rfl) rfl rfl (fun _ h => h.1 (w.heap.size, a) (.tail _ (.tail _ (.tail _ (.tail _ (.tail _ (.head _))))))) hH21 ?_
      simp only [Act.put, List.setIfInBounds_toArray, List.set_cons_zero, List.set_cons_succ]
      refine takeV 2 (.pointer (some ⟨w2.heap.size, 0, none⟩)) rfl (by kernel_rfl) (by kernel_rfl) (by kernel_rfl) (fun _ _ _ h => h) (by rfl) (fun w _ => by go_simp) hH21 ?_
      simp only [Act.put, List.setIfInBounds_toArray, List.set_cons_zero, List.set_cons_succ]
      refine takeV 3 (.int .u8 c0) rfl (by kernel_rfl) (by kernel_rfl) (by kernel_rfl) (fun _ _ _ h => h) (by rfl) (fun w h => by have hcc := hcell _ (h.1 (w2.heap.size, fred (a)) (.tail _ (.tail _ (.tail _ (.head _))))); go_simp) hH21 ?_
      simp only [Act.put, List.setIfInBounds_toArray, List.set_cons_zero, List.set_cons_succ]
      refine takeV 4 (.int .u8 ((c0 % 2 : Nat) : Int)) rfl (by kernel_rfl) (by kernel_rfl) (by kernel_rfl) (fun _ _ _ h => h) (by rfl) (fun w _ => exec_rem8 rfl c0 hc0 rfl rfl) hH21 ?_
      simp only [Act.put, List.setIfInBounds_toArray, List.set_cons_zero, List.set_cons_succ]
      refine takeV 5 (.bool od) rfl (by kernel_rfl) (by kernel_rfl) (by kernel_rfl) (fun _ _ _ h => h) (by rfl) (fun w _ => exec_eql8 rfl (c0 % 2) rfl rfl od hod.out) hH21 ?_
      simp only [Act.put, List.setIfInBounds_toArray, List.set_cons_zero, List.set_cons_succ]
      refine step1 1 (by kernel_rfl) rfl (fun K hK => ?_)
      rw [if_pos (by rfl)]
      go_simp
      refine Calls.mono (odd_is (a) ha od (hoa.out) _) ?_
      rintro e w22 ⟨rfl, hg22⟩
      dsimp only
      refine hK.out _ _ (keepE hH21 hg22) (fun hH22 => ?_)
      clear hK K
      clear hH21
      clear hg22
      refine takeV 6 (.bool false) rfl (by kernel_rfl) (by kernel_rfl) (by kernel_rfl) (fun _ _ _ h => h) (by rfl) (fun w _ => by cases od <;> rfl) hH22 ?_
      simp only [Act.put, List.setIfInBounds_toArray, List.set_cons_zero, List.set_cons_succ]
      refine takeV 7 (.bool false) rfl (by kernel_rfl) (by kernel_rfl) (by kernel_rfl) (fun _ _ _ h => h) (by rfl) (fun w _ => rfl) hH22 ?_
      simp only [Act.put, List.setIfInBounds_toArray, List.set_cons_zero, List.set_cons_succ]
      refine take32 8 (a) (w.heap.size) rfl (by kernel_rfl) (by kernel_rfl) (by kernel_rfl) (fun _ _ _ h => h) (by rfl) rfl rfl (fun _ h => h.1 (w.heap.size, a) (.tail _ (.tail _ (.tail _ (.tail _ (.tail _ (.head _))))))) hH22 ?_
      simp only [Act.put, List.setIfInBounds_toArray, List.set_cons_zero, List.set_cons_succ]
      refine take32 9 (fred (a)) (w2.heap.size) rfl (by kernel_rfl) (by kernel_rfl) (by kernel_rfl) (fun _ _ _ h => h) (by rfl) rfl rfl (fun _ h => h.1 (w2.heap.size, fred (a)) (.tail _ (.tail _ (.tail _ (.head _))))) hH22 ?_
      simp only [Act.put, List.setIfInBounds_toArray, List.set_cons_zero, List.set_cons_succ]
      refine step1 10 (by kernel_rfl) rfl (fun K hK => ?_)
      rw [if_pos (by rfl)]
      go_simp
      refine Calls.mono (equal_is (a) (fred (a)) ha (fred_lt _) true (F.ea) _) ?_
      rintro e w23 ⟨rfl, hg23⟩
      dsimp only
      refine hK.out _ _ (keepE hH22 hg23) (fun hH23 => ?_)
      clear hK K
      clear hH22
      clear hg23
      refine takeV 11 (.bool false) rfl (by kernel_rfl) (by kernel_rfl) (by kernel_rfl) (fun _ _ _ h => h) (by rfl) (fun w _ => by first | rfl | go_simp) hH23 ?_
      simp only [Act.put, List.setIfInBounds_toArray, List.set_cons_zero, List.set_cons_succ]
      refine takeV 12 (.bool false) rfl (by kernel_rfl) (by kernel_rfl) (by kernel_rfl) (fun _ _ _ h => h) (by rfl) (fun w _ => rfl) hH23 ?_
      simp only [Act.put, List.setIfInBounds_toArray, List.set_cons_zero, List.set_cons_succ]
      refine takeV 13 (.bool false) rfl (by kernel_rfl) (by kernel_rfl) (by kernel_rfl) (fun _ _ _ h => h) (by rfl) (fun w _ => rfl) hH23 ?_
      simp only [Act.put, List.setIfInBounds_toArray, List.set_cons_zero, List.set_cons_succ]
      refine take32 14 (fred (a)) (w2.heap.size) rfl (by kernel_rfl) (by kernel_rfl) (by kernel_rfl) (fun _ _ _ h => h) (by rfl) rfl rfl (fun _ h => h.1 (w2.heap.size, fred (a)) (.tail _ (.tail _ (.tail _ (.head _))))) hH23 ?_
      simp only [Act.put, List.setIfInBounds_toArray, List.set_cons_zero, List.set_cons_succ]
      refine take32 15 (psum (fred (a)) (pp)) (w10.heap.size) rfl (by kernel_rfl) (by kernel_rfl) (by kernel_rfl) (fun _ _ _ h => h) (by rfl) rfl rfl (fun _ h => h.1 (w10.heap.size, psum (fred (a)) (pp)) (.tail _ (.tail _ (.head _)))) hH23 ?_
      simp only [Act.put, List.setIfInBounds_toArray, List.set_cons_zero, List.set_cons_succ]
      refine step1 16 (by kernel_rfl) rfl (fun K hK => ?_)
      rw [if_pos (by rfl)]
      go_simp
      refine Calls.mono (equal_is (fred (a)) (psum (fred (a)) (pp)) (fred_lt _) (psum_lt _ _) true (F.eo) _) ?_
      rintro e w24 ⟨rfl, hg24⟩
      dsimp only
      refine hK.out _ _ (keepE hH23 hg24) (fun hH24 => ?_)
      clear hK K
      clear hH23
      clear hg24
      refine takeV 17 (.bool false) rfl (by kernel_rfl) (by kernel_rfl) (by kernel_rfl) (fun _ _ _ h => h) (by rfl) (fun w _ => by first | rfl | go_simp) hH24 ?_
      simp only [Act.put, List.setIfInBounds_toArray, List.set_cons_zero, List.set_cons_succ]
      refine takeV 18 (.bool false) rfl (by kernel_rfl) (by kernel_rfl) (by kernel_rfl) (fun _ _ _ h => h) (by rfl) (fun w _ => rfl) hH24 ?_
      simp only [Act.put, List.setIfInBounds_toArray, List.set_cons_zero, List.set_cons_succ]
      refine takeV 19 (.bool false) rfl (by kernel_rfl) (by kernel_rfl) (by kernel_rfl) (fun _ _ _ h => h) (by rfl) (fun w _ => rfl) hH24 ?_
      simp only [Act.put, List.setIfInBounds_toArray, List.set_cons_zero, List.set_cons_succ]
      refine take32 20 (a) (w.heap.size) rfl (by kernel_rfl) (by kernel_rfl) (by kernel_rfl) (fun _ _ _ h => h) (by rfl) rfl rfl (fun _ h => h.1 (w.heap.size, a) (.tail _ (.tail _ (.tail _ (.tail _ (.tail _ (.head _))))))) hH24 ?_
      simp only [Act.put, List.setIfInBounds_toArray, List.set_cons_zero, List.set_cons_succ]
      refine take32 21 (fadd (a) (u)) (w16.heap.size) rfl (by kernel_rfl) (by kernel_rfl) (by kernel_rfl) (fun _ _ _ h => h) (by rfl) rfl rfl (fun _ h => h.1 (w16.heap.size, fadd (a) (u)) (.head _)) hH24 ?_
      simp only [Act.put, List.setIfInBounds_toArray, List.set_cons_zero, List.set_cons_succ]
      refine step1 22 (by kernel_rfl) rfl (fun K hK => ?_)
      rw [if_pos (by rfl)]
      go_simp
      refine Calls.mono (equal_is (a) (fadd (a) (u)) ha (fadd_lt _ _) false (F.en) _) ?_
      rintro e w25 ⟨rfl, hg25⟩
      dsimp only
      refine hK.out _ _ (keepE hH24 hg25) (fun hH25 => ?_)
      clear hK K
      clear hH24
      clear hg25
      refine takeV 23 (.bool false) rfl (by kernel_rfl) (by kernel_rfl) (by kernel_rfl) (fun _ _ _ h => h) (by rfl) (fun w _ => rfl) hH25 ?_
      simp only [Act.put, List.setIfInBounds_toArray, List.set_cons_zero, List.set_cons_succ]
      refine wpAnyH_done (by kernel_rfl) ?_ _
      refine NoPanic.normal ?_
      obtain ⟨hE26, hW26⟩ := hH25
      repeat ((fail_if_success (with_reducible show Code.wp _ (Code.region _ _ _) _ _ _)); go_step)
      refine wp_region_noPanic ?_
      refine wp_region_held_drew (S := fun w' => Holds [(w16.heap.size, fadd (a) (u)), (w12.heap.size, psum (psum (fred (a)) (pp)) (pp)), (w10.heap.size, psum (fred (a)) (pp)), (w2.heap.size, fred (a)), (w0.heap.size, pp), (w.heap.size, a)] w' ∧ Grown w w') (by kernel_rfl) ⟨hE26, hW26⟩ (fun hH27 => ?_)
      clear hE26 hW26
      refine take32 0 (psum (fred (a)) (pp)) (w10.heap.size) rfl (by kernel_rfl) (by kernel_rfl) (by kernel_rfl) (fun _ _ _ h => h) (by rfl) rfl rfl (fun _ h => h.1 (w10.heap.size, psum (fred (a)) (pp)) (.tail _ (.tail _ (.head _)))) hH27 ?_
      simp only [Act.put, List.setIfInBounds_toArray, List.set_cons_zero, List.set_cons_succ]
      refine take32 2 (fred (a)) (w2.heap.size) rfl (by kernel_rfl) (by kernel_rfl) (by kernel_rfl) (fun _ _ _ h => h) (by rfl) rfl rfl (fun _ h => h.1 (w2.heap.size, fred (a)) (.tail _ (.tail _ (.tail _ (.head _))))) hH27 ?_
      simp only [Act.put, List.setIfInBounds_toArray, List.set_cons_zero, List.set_cons_succ]
      refine step1 1 (by kernel_rfl) rfl (fun K hK => ?_)
      rw [if_pos (by rfl)]
      go_simp
      refine Calls.mono (Reduce_f (psum (fred (a)) (pp)) (psum_lt _ _) _) ?_
      rintro e w28 ⟨rfl, hg28⟩
      dsimp only
      refine hK.out _ _ (keepE hH27 hg28) (fun hH28 => ?_)
      clear hK K
      clear hH27
      clear hg28
      refine takeV 3 (.bool true) rfl (by kernel_rfl) (by kernel_rfl) (by kernel_rfl) (fun _ _ _ h => h) (by rfl) (fun w _ => exec_eql_same rfl (fred (psum (fred (a)) (pp))) (fred (a)) rfl rfl (fred_lt _) (fred_lt _) (F.fo) w) hH28 ?_
      simp only [Act.put, List.setIfInBounds_toArray, List.set_cons_zero, List.set_cons_succ]
      refine takeV 4 (.bool true) rfl (by kernel_rfl) (by kernel_rfl) (by kernel_rfl) (fun _ _ _ h => h) (by rfl) (fun w _ => rfl) hH28 ?_
      simp only [Act.put, List.setIfInBounds_toArray, List.set_cons_zero, List.set_cons_succ]
      refine wpAnyH_done (by kernel_rfl) ?_ _
      refine NoPanic.normal ?_
      obtain ⟨hE29, hW29⟩ := hH28
      repeat go_step
      go_ret
      exact ⟨rfl, by first | assumption | exact hW29⟩
    · -- operation 3 first
      refine alloc_op rfl (by rfl) (fun w30 hA30 ht30 => ?_)
      simp only [Act.put, List.setIfInBounds_toArray, List.set_cons_zero, List.set_cons_succ]
      refine hK.out _ _ (keepE hH15 hA30) (fun hH30 => ?_)
      clear hK K
      refine step1 2 (by kernel_rfl) rfl (fun K hK => ?_)
      rw [if_pos (by rfl)]
      go_simp
      refine Calls.mono (Add_f (a) (u) ha huM _) ?_
      rintro e w31 ⟨rfl, hg31⟩
      dsimp only
      refine hK.out _ _ (keepE hH30 hg31) (fun hH31 => ?_)
      clear hK K
      have hA31 := grown_trans hA30 hg31
      have ht31 := there_grown ht30 hg31
      clear hA30 ht30
      clear hH30
      clear hg31
      refine step1 4 (by kernel_rfl) rfl (fun K hK => ?_)
      refine store_op (fadd (a) (u)) rfl (by rfl) rfl rfl ht31 hA31 (fun w32 hG32 hr32 => ?_)
      simp only [Act.put]
      refine hK.out _ _ (keepE hH15 hG32) (fun hH32 => ?_)
      clear hK K
      clear hH15 hH31 hG32 hA31 ht31
      refine wpAnyH_done (by kernel_rfl) ?_ _
      refine NoPanic.normal ?_
      obtain ⟨hE33, hW33⟩ := hH32
      have hE34 := hE33.cons hr32
      repeat ((fail_if_success (with_reducible show Code.wp _ (Code.region _ _ _) _ _ _)); go_step)
      refine wp_region_noPanic ?_
      refine wp_region_held_drew (S := fun w' => Holds [(w15.heap.size, fadd (a) (u)), (w12.heap.size, psum (psum (fred (a)) (pp)) (pp)), (w10.heap.size, psum (fred (a)) (pp)), (w2.heap.size, fred (a)), (w0.heap.size, pp), (w.heap.size, a)] w' ∧ Grown w w') (by kernel_rfl) ⟨hE34, hW33⟩ (fun hH35 => ?_)
      clear hE34 hW33
      refine take32 0 (a) (w.heap.size) rfl (by kernel_rfl) (by kernel_rfl) (by kernel_rfl) (fun _ _ _ h => h) (by rfl) rfl rfl (fun _ h => h.1 (w.heap.size, a) (.tail _ (.tail _ (.tail _ (.tail _ (.tail _ (.head _))))))) hH35 ?_
      simp only [Act.put, List.setIfInBounds_toArray, List.set_cons_zero, List.set_cons_succ]
      refine takeV 2 (.pointer (some ⟨w2.heap.size, 0, none⟩)) rfl (by kernel_rfl) (by kernel_rfl) (by kernel_rfl) (fun _ _ _ h => h) (by rfl) (fun w _ => by go_simp) hH35 ?_
      simp only [Act.put, List.setIfInBounds_toArray, List.set_cons_zero, List.set_cons_succ]
      refine takeV 3 (.int .u8 c0) rfl (by kernel_rfl) (by kernel_rfl) (by kernel_rfl) (fun _ _ _ h => h) (by rfl) (fun w h => by have hcc := hcell _ (h.1 (w2.heap.size, fred (a)) (.tail _ (.tail _ (.tail _ (.head _))))); go_simp) hH35 ?_
      simp only [Act.put, List.setIfInBounds_toArray, List.set_cons_zero, List.set_cons_succ]
      refine takeV 4 (.int .u8 ((c0 % 2 : Nat) : Int)) rfl (by kernel_rfl) (by kernel_rfl) (by kernel_rfl) (fun _ _ _ h => h) (by rfl) (fun w _ => exec_rem8 rfl c0 hc0 rfl rfl) hH35 ?_
      simp only [Act.put, List.setIfInBounds_toArray, List.set_cons_zero, List.set_cons_succ]
      refine takeV 5 (.bool od) rfl (by kernel_rfl) (by kernel_rfl) (by kernel_rfl) (fun _ _ _ h => h) (by rfl) (fun w _ => exec_eql8 rfl (c0 % 2) rfl rfl od hod.out) hH35 ?_
      simp only [Act.put, List.setIfInBounds_toArray, List.set_cons_zero, List.set_cons_succ]
      refine step1 1 (by kernel_rfl) rfl (fun K hK => ?_)
      rw [if_pos (by rfl)]
      go_simp
      refine Calls.mono (odd_is (a) ha od (hoa.out) _) ?_
      rintro e w36 ⟨rfl, hg36⟩
      dsimp only
      refine hK.out _ _ (keepE hH35 hg36) (fun hH36 => ?_)
      clear hK K
      clear hH35
      clear hg36
      refine takeV 6 (.bool false) rfl (by kernel_rfl) (by kernel_rfl) (by kernel_rfl) (fun _ _ _ h => h) (by rfl) (fun w _ => by cases od <;> rfl) hH36 ?_
      simp only [Act.put, List.setIfInBounds_toArray, List.set_cons_zero, List.set_cons_succ]
      refine takeV 7 (.bool false) rfl (by kernel_rfl) (by kernel_rfl) (by kernel_rfl) (fun _ _ _ h => h) (by rfl) (fun w _ => rfl) hH36 ?_
      simp only [Act.put, List.setIfInBounds_toArray, List.set_cons_zero, List.set_cons_succ]
      refine take32 8 (a) (w.heap.size) rfl (by kernel_rfl) (by kernel_rfl) (by kernel_rfl) (fun _ _ _ h => h) (by rfl) rfl rfl (fun _ h => h.1 (w.heap.size, a) (.tail _ (.tail _ (.tail _ (.tail _ (.tail _ (.head _))))))) hH36 ?_
      simp only [Act.put, List.setIfInBounds_toArray, List.set_cons_zero, List.set_cons_succ]
      refine take32 9 (fred (a)) (w2.heap.size) rfl (by kernel_rfl) (by kernel_rfl) (by kernel_rfl) (fun _ _ _ h => h) (by rfl) rfl rfl (fun _ h => h.1 (w2.heap.size, fred (a)) (.tail _ (.tail _ (.tail _ (.head _))))) hH36 ?_
      simp only [Act.put, List.setIfInBounds_toArray, List.set_cons_zero, List.set_cons_succ]
      refine step1 10 (by kernel_rfl) rfl (fun K hK => ?_)
      rw [if_pos (by rfl)]
      go_simp
      refine Calls.mono (equal_is (a) (fred (a)) ha (fred_lt _) true (F.ea) _) ?_
      rintro e w37 ⟨rfl, hg37⟩
      dsimp only
      refine hK.out _ _ (keepE hH36 hg37) (fun hH37 => ?_)
      clear hK K
      clear hH36
      clear hg37
      refine takeV 11 (.bool false) rfl (by kernel_rfl) (by kernel_rfl) (by kernel_rfl) (fun _ _ _ h => h) (by rfl) (fun w _ => by first | rfl | go_simp) hH37 ?_
      simp only [Act.put, List.setIfInBounds_toArray, List.set_cons_zero, List.set_cons_succ]
      refine takeV 12 (.bool false) rfl (by kernel_rfl) (by kernel_rfl) (by kernel_rfl) (fun _ _ _ h => h) (by rfl) (fun w _ => rfl) hH37 ?_
      simp only [Act.put, List.setIfInBounds_toArray, List.set_cons_zero, List.set_cons_succ]
      refine takeV 13 (.bool false) rfl (by kernel_rfl) (by kernel_rfl) (by kernel_rfl) (fun _ _ _ h => h) (by rfl) (fun w _ => rfl) hH37 ?_
      simp only [Act.put, List.setIfInBounds_toArray, List.set_cons_zero, List.set_cons_succ]
      refine take32 14 (fred (a)) (w2.heap.size) rfl (by kernel_rfl) (by kernel_rfl) (by kernel_rfl) (fun _ _ _ h => h) (by rfl) rfl rfl (fun _ h => h.1 (w2.heap.size, fred (a)) (.tail _ (.tail _ (.tail _ (.head _))))) hH37 ?_
      simp only [Act.put, List.setIfInBounds_toArray, List.set_cons_zero, List.set_cons_succ]
      refine take32 15 (psum (fred (a)) (pp)) (w10.heap.size) rfl (by kernel_rfl) (by kernel_rfl) (by kernel_rfl) (fun _ _ _ h => h) (by rfl) rfl rfl (fun _ h => h.1 (w10.heap.size, psum (fred (a)) (pp)) (.tail _ (.tail _ (.head _)))) hH37 ?_
      simp only [Act.put, List.setIfInBounds_toArray, List.set_cons_zero, List.set_cons_succ]
      refine step1 16 (by kernel_rfl) rfl (fun K hK => ?_)
      rw [if_pos (by rfl)]
      go_simp
      refine Calls.mono (equal_is (fred (a)) (psum (fred (a)) (pp)) (fred_lt _) (psum_lt _ _) true (F.eo) _) ?_
      rintro e w38 ⟨rfl, hg38⟩
      dsimp only
      refine hK.out _ _ (keepE hH37 hg38) (fun hH38 => ?_)
      clear hK K
      clear hH37
      clear hg38
      refine takeV 17 (.bool false) rfl (by kernel_rfl) (by kernel_rfl) (by kernel_rfl) (fun _ _ _ h => h) (by rfl) (fun w _ => by first | rfl | go_simp) hH38 ?_
      simp only [Act.put, List.setIfInBounds_toArray, List.set_cons_zero, List.set_cons_succ]
      refine takeV 18 (.bool false) rfl (by kernel_rfl) (by kernel_rfl) (by kernel_rfl) (fun _ _ _ h => h) (by rfl) (fun w _ => rfl) hH38 ?_
      simp only [Act.put, List.setIfInBounds_toArray, List.set_cons_zero, List.set_cons_succ]
      refine takeV 19 (.bool false) rfl (by kernel_rfl) (by kernel_rfl) (by kernel_rfl) (fun _ _ _ h => h) (by rfl) (fun w _ => rfl) hH38 ?_
      simp only [Act.put, List.setIfInBounds_toArray, List.set_cons_zero, List.set_cons_succ]
      refine take32 20 (a) (w.heap.size) rfl (by kernel_rfl) (by kernel_rfl) (by kernel_rfl) (fun _ _ _ h => h) (by rfl) rfl rfl (fun _ h => h.1 (w.heap.size, a) (.tail _ (.tail _ (.tail _ (.tail _ (.tail _ (.head _))))))) hH38 ?_
      simp only [Act.put, List.setIfInBounds_toArray, List.set_cons_zero, List.set_cons_succ]
      refine take32 21 (fadd (a) (u)) (w15.heap.size) rfl (by kernel_rfl) (by kernel_rfl) (by kernel_rfl) (fun _ _ _ h => h) (by rfl) rfl rfl (fun _ h => h.1 (w15.heap.size, fadd (a) (u)) (.head _)) hH38 ?_
      simp only [Act.put, List.setIfInBounds_toArray, List.set_cons_zero, List.set_cons_succ]
      refine step1 22 (by kernel_rfl) rfl (fun K hK => ?_)
      rw [if_pos (by rfl)]
      go_simp
      refine Calls.mono (equal_is (a) (fadd (a) (u)) ha (fadd_lt _ _) false (F.en) _) ?_
      rintro e w39 ⟨rfl, hg39⟩
      dsimp only
      refine hK.out _ _ (keepE hH38 hg39) (fun hH39 => ?_)
      clear hK K
      clear hH38
      clear hg39
      refine takeV 23 (.bool false) rfl (by kernel_rfl) (by kernel_rfl) (by kernel_rfl) (fun _ _ _ h => h) (by rfl) (fun w _ => rfl) hH39 ?_
      simp only [Act.put, List.setIfInBounds_toArray, List.set_cons_zero, List.set_cons_succ]
      refine wpAnyH_done (by kernel_rfl) ?_ _
      refine NoPanic.normal ?_
      obtain ⟨hE40, hW40⟩ := hH39
      repeat ((fail_if_success (with_reducible show Code.wp _ (Code.region _ _ _) _ _ _)); go_step)
      refine wp_region_noPanic ?_
      refine wp_region_held_drew (S := fun w' => Holds [(w15.heap.size, fadd (a) (u)), (w12.heap.size, psum (psum (fred (a)) (pp)) (pp)), (w10.heap.size, psum (fred (a)) (pp)), (w2.heap.size, fred (a)), (w0.heap.size, pp), (w.heap.size, a)] w' ∧ Grown w w') (by kernel_rfl) ⟨hE40, hW40⟩ (fun hH41 => ?_)
      clear hE40 hW40
      refine take32 0 (psum (fred (a)) (pp)) (w10.heap.size) rfl (by kernel_rfl) (by kernel_rfl) (by kernel_rfl) (fun _ _ _ h => h) (by rfl) rfl rfl (fun _ h => h.1 (w10.heap.size, psum (fred (a)) (pp)) (.tail _ (.tail _ (.head _)))) hH41 ?_
      simp only [Act.put, List.setIfInBounds_toArray, List.set_cons_zero, List.set_cons_succ]
      refine take32 2 (fred (a)) (w2.heap.size) rfl (by kernel_rfl) (by kernel_rfl) (by kernel_rfl) (fun _ _ _ h => h) (by rfl) rfl rfl (fun _ h => h.1 (w2.heap.size, fred (a)) (.tail _ (.tail _ (.tail _ (.head _))))) hH41 ?_
      simp only [Act.put, List.setIfInBounds_toArray, List.set_cons_zero, List.set_cons_succ]
      refine step1 1 (by kernel_rfl) rfl (fun K hK => ?_)
      rw [if_pos (by rfl)]
      go_simp
      refine Calls.mono (Reduce_f (psum (fred (a)) (pp)) (psum_lt _ _) _) ?_
      rintro e w42 ⟨rfl, hg42⟩
      dsimp only
      refine hK.out _ _ (keepE hH41 hg42) (fun hH42 => ?_)
      clear hK K
      clear hH41
      clear hg42
      refine takeV 3 (.bool true) rfl (by kernel_rfl) (by kernel_rfl) (by kernel_rfl) (fun _ _ _ h => h) (by rfl) (fun w _ => exec_eql_same rfl (fred (psum (fred (a)) (pp))) (fred (a)) rfl rfl (fred_lt _) (fred_lt _) (F.fo) w) hH42 ?_
      simp only [Act.put, List.setIfInBounds_toArray, List.set_cons_zero, List.set_cons_succ]
      refine takeV 4 (.bool true) rfl (by kernel_rfl) (by kernel_rfl) (by kernel_rfl) (fun _ _ _ h => h) (by rfl) (fun w _ => rfl) hH42 ?_
      simp only [Act.put, List.setIfInBounds_toArray, List.set_cons_zero, List.set_cons_succ]
      refine wpAnyH_done (by kernel_rfl) ?_ _
      refine NoPanic.normal ?_
      obtain ⟨hE43, hW43⟩ := hH42
      repeat go_step
      go_ret
      exact ⟨rfl, by first | assumption | exact hW43⟩
  · -- operation 3 first
    refine alloc_op rfl (by rfl) (fun w44 hA44 ht44 => ?_)
    simp only [Act.put, List.setIfInBounds_toArray, List.set_cons_zero, List.set_cons_succ]
    refine hK.out _ _ (keepE hH14 hA44) (fun hH44 => ?_)
    clear hK K
    refine step1 1 (by kernel_rfl) rfl (fun K hK => ?_)
    rw [if_pos (by rfl)]
    go_simp
    refine Calls.mono (number_nat u (by rw [hu.out]; decide) 1 (by rw [hu.out]; rfl) _) ?_
    rintro e w45 ⟨rfl, hg45⟩
    dsimp only
    refine hK.out _ _ (keepE hH44 hg45) (fun hH45 => ?_)
    clear hK K
    have hA45 := grown_trans hA44 hg45
    have ht45 := there_grown ht44 hg45
    clear hA44 ht44
    clear hH44
    clear hg45
    refine step1 2 (by kernel_rfl) rfl (fun K hK => ?_)
    rw [if_pos (by rfl)]
    go_simp
    refine Calls.mono (Add_f (a) (u) ha huM _) ?_
    rintro e w46 ⟨rfl, hg46⟩
    dsimp only
    refine hK.out _ _ (keepE hH45 hg46) (fun hH46 => ?_)
    clear hK K
    have hA46 := grown_trans hA45 hg46
    have ht46 := there_grown ht45 hg46
    clear hA45 ht45
    clear hH45
    clear hg46
    refine step1 4 (by kernel_rfl) rfl (fun K hK => ?_)
    refine store_op (fadd (a) (u)) rfl (by rfl) rfl rfl ht46 hA46 (fun w47 hG47 hr47 => ?_)
    simp only [Act.put]
    refine hK.out _ _ (keepE hH14 hG47) (fun hH47 => ?_)
    clear hK K
    clear hH14 hH46 hG47 hA46 ht46
    refine wpAnyH_done (by kernel_rfl) ?_ _
    refine NoPanic.normal ?_
    obtain ⟨hE48, hW48⟩ := hH47
    have hE49 := hE48.cons hr47
    repeat ((fail_if_success (with_reducible show Code.wp _ (Code.region _ _ _) _ _ _)); go_step)
    refine wp_region_noPanic ?_
    refine wp_region_held_drew (S := fun w' => Holds [(w13.heap.size, fadd (a) (u)), (w12.heap.size, psum (psum (fred (a)) (pp)) (pp)), (w10.heap.size, psum (fred (a)) (pp)), (w2.heap.size, fred (a)), (w0.heap.size, pp), (w.heap.size, a)] w' ∧ Grown w w') (by kernel_rfl) ⟨hE49, hW48⟩ (fun hH50 => ?_)
    clear hE49 hW48
    refine take32 0 (a) (w.heap.size) rfl (by kernel_rfl) (by kernel_rfl) (by kernel_rfl) (fun _ _ _ h => h) (by rfl) rfl rfl (fun _ h => h.1 (w.heap.size, a) (.tail _ (.tail _ (.tail _ (.tail _ (.tail _ (.head _))))))) hH50 ?_
    simp only [Act.put, List.setIfInBounds_toArray, List.set_cons_zero, List.set_cons_succ]
    refine takeV 2 (.pointer (some ⟨w2.heap.size, 0, none⟩)) rfl (by kernel_rfl) (by kernel_rfl) (by kernel_rfl) (fun _ _ _ h => h) (by rfl) (fun w _ => by go_simp) hH50 ?_
    simp only [Act.put, List.setIfInBounds_toArray, List.set_cons_zero, List.set_cons_succ]
    refine takeV 3 (.int .u8 c0) rfl (by kernel_rfl) (by kernel_rfl) (by kernel_rfl) (fun _ _ _ h => h) (by rfl) (fun w h => by have hcc := hcell _ (h.1 (w2.heap.size, fred (a)) (.tail _ (.tail _ (.tail _ (.head _))))); go_simp) hH50 ?_
    simp only [Act.put, List.setIfInBounds_toArray, List.set_cons_zero, List.set_cons_succ]
    refine takeV 4 (.int .u8 ((c0 % 2 : Nat) : Int)) rfl (by kernel_rfl) (by kernel_rfl) (by kernel_rfl) (fun _ _ _ h => h) (by rfl) (fun w _ => exec_rem8 rfl c0 hc0 rfl rfl) hH50 ?_
    simp only [Act.put, List.setIfInBounds_toArray, List.set_cons_zero, List.set_cons_succ]
    refine takeV 5 (.bool od) rfl (by kernel_rfl) (by kernel_rfl) (by kernel_rfl) (fun _ _ _ h => h) (by rfl) (fun w _ => exec_eql8 rfl (c0 % 2) rfl rfl od hod.out) hH50 ?_
    simp only [Act.put, List.setIfInBounds_toArray, List.set_cons_zero, List.set_cons_succ]
    refine step1 1 (by kernel_rfl) rfl (fun K hK => ?_)
    rw [if_pos (by rfl)]
    go_simp
    refine Calls.mono (odd_is (a) ha od (hoa.out) _) ?_
    rintro e w51 ⟨rfl, hg51⟩
    dsimp only
    refine hK.out _ _ (keepE hH50 hg51) (fun hH51 => ?_)
    clear hK K
    clear hH50
    clear hg51
    refine takeV 6 (.bool false) rfl (by kernel_rfl) (by kernel_rfl) (by kernel_rfl) (fun _ _ _ h => h) (by rfl) (fun w _ => by cases od <;> rfl) hH51 ?_
    simp only [Act.put, List.setIfInBounds_toArray, List.set_cons_zero, List.set_cons_succ]
    refine takeV 7 (.bool false) rfl (by kernel_rfl) (by kernel_rfl) (by kernel_rfl) (fun _ _ _ h => h) (by rfl) (fun w _ => rfl) hH51 ?_
    simp only [Act.put, List.setIfInBounds_toArray, List.set_cons_zero, List.set_cons_succ]
    refine take32 8 (a) (w.heap.size) rfl (by kernel_rfl) (by kernel_rfl) (by kernel_rfl) (fun _ _ _ h => h) (by rfl) rfl rfl (fun _ h => h.1 (w.heap.size, a) (.tail _ (.tail _ (.tail _ (.tail _ (.tail _ (.head _))))))) hH51 ?_
    simp only [Act.put, List.setIfInBounds_toArray, List.set_cons_zero, List.set_cons_succ]
    refine take32 9 (fred (a)) (w2.heap.size) rfl (by kernel_rfl) (by kernel_rfl) (by kernel_rfl) (fun _ _ _ h => h) (by rfl) rfl rfl (fun _ h => h.1 (w2.heap.size, fred (a)) (.tail _ (.tail _ (.tail _ (.head _))))) hH51 ?_
    simp only [Act.put, List.setIfInBounds_toArray, List.set_cons_zero, List.set_cons_succ]
    refine step1 10 (by kernel_rfl) rfl (fun K hK => ?_)
    rw [if_pos (by rfl)]
    go_simp
    refine Calls.mono (equal_is (a) (fred (a)) ha (fred_lt _) true (F.ea) _) ?_
    rintro e w52 ⟨rfl, hg52⟩
    dsimp only
    refine hK.out _ _ (keepE hH51 hg52) (fun hH52 => ?_)
    clear hK K
    clear hH51
    clear hg52
    refine takeV 11 (.bool false) rfl (by kernel_rfl) (by kernel_rfl) (by kernel_rfl) (fun _ _ _ h => h) (by rfl) (fun w _ => by first | rfl | go_simp) hH52 ?_
    simp only [Act.put, List.setIfInBounds_toArray, List.set_cons_zero, List.set_cons_succ]
    refine takeV 12 (.bool false) rfl (by kernel_rfl) (by kernel_rfl) (by kernel_rfl) (fun _ _ _ h => h) (by rfl) (fun w _ => rfl) hH52 ?_
    simp only [Act.put, List.setIfInBounds_toArray, List.set_cons_zero, List.set_cons_succ]
    refine takeV 13 (.bool false) rfl (by kernel_rfl) (by kernel_rfl) (by kernel_rfl) (fun _ _ _ h => h) (by rfl) (fun w _ => rfl) hH52 ?_
    simp only [Act.put, List.setIfInBounds_toArray, List.set_cons_zero, List.set_cons_succ]
    refine take32 14 (fred (a)) (w2.heap.size) rfl (by kernel_rfl) (by kernel_rfl) (by kernel_rfl) (fun _ _ _ h => h) (by rfl) rfl rfl (fun _ h => h.1 (w2.heap.size, fred (a)) (.tail _ (.tail _ (.tail _ (.head _))))) hH52 ?_
    simp only [Act.put, List.setIfInBounds_toArray, List.set_cons_zero, List.set_cons_succ]
    refine take32 15 (psum (fred (a)) (pp)) (w10.heap.size) rfl (by kernel_rfl) (by kernel_rfl) (by kernel_rfl) (fun _ _ _ h => h) (by rfl) rfl rfl (fun _ h => h.1 (w10.heap.size, psum (fred (a)) (pp)) (.tail _ (.tail _ (.head _)))) hH52 ?_
    simp only [Act.put, List.setIfInBounds_toArray, List.set_cons_zero, List.set_cons_succ]
    refine step1 16 (by kernel_rfl) rfl (fun K hK => ?_)
    rw [if_pos (by rfl)]
    go_simp
    refine Calls.mono (equal_is (fred (a)) (psum (fred (a)) (pp)) (fred_lt _) (psum_lt _ _) true (F.eo) _) ?_
    rintro e w53 ⟨rfl, hg53⟩
    dsimp only
    refine hK.out _ _ (keepE hH52 hg53) (fun hH53 => ?_)
    clear hK K
    clear hH52
    clear hg53
    refine takeV 17 (.bool false) rfl (by kernel_rfl) (by kernel_rfl) (by kernel_rfl) (fun _ _ _ h => h) (by rfl) (fun w _ => by first | rfl | go_simp) hH53 ?_
    simp only [Act.put, List.setIfInBounds_toArray, List.set_cons_zero, List.set_cons_succ]
    refine takeV 18 (.bool false) rfl (by kernel_rfl) (by kernel_rfl) (by kernel_rfl) (fun _ _ _ h => h) (by rfl) (fun w _ => rfl) hH53 ?_
    simp only [Act.put, List.setIfInBounds_toArray, List.set_cons_zero, List.set_cons_succ]
    refine takeV 19 (.bool false) rfl (by kernel_rfl) (by kernel_rfl) (by kernel_rfl) (fun _ _ _ h => h) (by rfl) (fun w _ => rfl) hH53 ?_
    simp only [Act.put, List.setIfInBounds_toArray, List.set_cons_zero, List.set_cons_succ]
    refine take32 20 (a) (w.heap.size) rfl (by kernel_rfl) (by kernel_rfl) (by kernel_rfl) (fun _ _ _ h => h) (by rfl) rfl rfl (fun _ h => h.1 (w.heap.size, a) (.tail _ (.tail _ (.tail _ (.tail _ (.tail _ (.head _))))))) hH53 ?_
    simp only [Act.put, List.setIfInBounds_toArray, List.set_cons_zero, List.set_cons_succ]
    refine take32 21 (fadd (a) (u)) (w13.heap.size) rfl (by kernel_rfl) (by kernel_rfl) (by kernel_rfl) (fun _ _ _ h => h) (by rfl) rfl rfl (fun _ h => h.1 (w13.heap.size, fadd (a) (u)) (.head _)) hH53 ?_
    simp only [Act.put, List.setIfInBounds_toArray, List.set_cons_zero, List.set_cons_succ]
    refine step1 22 (by kernel_rfl) rfl (fun K hK => ?_)
    rw [if_pos (by rfl)]
    go_simp
    refine Calls.mono (equal_is (a) (fadd (a) (u)) ha (fadd_lt _ _) false (F.en) _) ?_
    rintro e w54 ⟨rfl, hg54⟩
    dsimp only
    refine hK.out _ _ (keepE hH53 hg54) (fun hH54 => ?_)
    clear hK K
    clear hH53
    clear hg54
    refine takeV 23 (.bool false) rfl (by kernel_rfl) (by kernel_rfl) (by kernel_rfl) (fun _ _ _ h => h) (by rfl) (fun w _ => rfl) hH54 ?_
    simp only [Act.put, List.setIfInBounds_toArray, List.set_cons_zero, List.set_cons_succ]
    refine wpAnyH_done (by kernel_rfl) ?_ _
    refine NoPanic.normal ?_
    obtain ⟨hE55, hW55⟩ := hH54
    repeat ((fail_if_success (with_reducible show Code.wp _ (Code.region _ _ _) _ _ _)); go_step)
    refine wp_region_noPanic ?_
    refine wp_region_held_drew (S := fun w' => Holds [(w13.heap.size, fadd (a) (u)), (w12.heap.size, psum (psum (fred (a)) (pp)) (pp)), (w10.heap.size, psum (fred (a)) (pp)), (w2.heap.size, fred (a)), (w0.heap.size, pp), (w.heap.size, a)] w' ∧ Grown w w') (by kernel_rfl) ⟨hE55, hW55⟩ (fun hH56 => ?_)
    clear hE55 hW55
    refine take32 0 (psum (fred (a)) (pp)) (w10.heap.size) rfl (by kernel_rfl) (by kernel_rfl) (by kernel_rfl) (fun _ _ _ h => h) (by rfl) rfl rfl (fun _ h => h.1 (w10.heap.size, psum (fred (a)) (pp)) (.tail _ (.tail _ (.head _)))) hH56 ?_
    simp only [Act.put, List.setIfInBounds_toArray, List.set_cons_zero, List.set_cons_succ]
    refine take32 2 (fred (a)) (w2.heap.size) rfl (by kernel_rfl) (by kernel_rfl) (by kernel_rfl) (fun _ _ _ h => h) (by rfl) rfl rfl (fun _ h => h.1 (w2.heap.size, fred (a)) (.tail _ (.tail _ (.tail _ (.head _))))) hH56 ?_
    simp only [Act.put, List.setIfInBounds_toArray, List.set_cons_zero, List.set_cons_succ]
    refine step1 1 (by kernel_rfl) rfl (fun K hK => ?_)
    rw [if_pos (by rfl)]
    go_simp
    refine Calls.mono (Reduce_f (psum (fred (a)) (pp)) (psum_lt _ _) _) ?_
    rintro e w57 ⟨rfl, hg57⟩
    dsimp only
    refine hK.out _ _ (keepE hH56 hg57) (fun hH57 => ?_)
    clear hK K
    clear hH56
    clear hg57
    refine takeV 3 (.bool true) rfl (by kernel_rfl) (by kernel_rfl) (by kernel_rfl) (fun _ _ _ h => h) (by rfl) (fun w _ => exec_eql_same rfl (fred (psum (fred (a)) (pp))) (fred (a)) rfl rfl (fred_lt _) (fred_lt _) (F.fo) w) hH57 ?_
    simp only [Act.put, List.setIfInBounds_toArray, List.set_cons_zero, List.set_cons_succ]
    refine takeV 4 (.bool true) rfl (by kernel_rfl) (by kernel_rfl) (by kernel_rfl) (fun _ _ _ h => h) (by rfl) (fun w _ => rfl) hH57 ?_
    simp only [Act.put, List.setIfInBounds_toArray, List.set_cons_zero, List.set_cons_succ]
    refine wpAnyH_done (by kernel_rfl) ?_ _
    refine NoPanic.normal ?_
    obtain ⟨hE58, hW58⟩ := hH57
    repeat go_step
    go_ret
    exact ⟨rfl, by first | assumption | exact hW58⟩
end Go.Proofs.Ytoonlnncboikfaa
