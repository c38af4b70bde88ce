import Derived.Test.YteijccjdejjbjaaCl
namespace Go.Proofs.Yteijccjdejjbjaa
open Go.RowKit Go.Shelf ScalarNum

theorem cl_facts (x0 x1 : Nat) (h0 : x0 < 256) (_h1 : x1 < 256) : ((x0 / 8 * 8 : Nat) : Int) % 8 = 0 ∧ ¬ ((x1 % 64 + 64 : Nat) : Int) < 64 ∧ ¬ (128 : Int) ≤ ((x1 % 64 + 64 : Nat) : Int) ∧ ((x0 / 8 * 8 : Nat) : Int) / 8 = (x0 : Int) / 8 ∧ ((x1 % 64 + 64 : Nat) : Int) % 64 = (x1 : Int) % 64 ∧ x0 / 8 * 8 < 256 ∧ x1 % 64 + 64 < 256 := by omega

set_option maxRecDepth 100000 in
set_option maxHeartbeats 1000000 in
theorem clamps_walk (x : Nat) (hx : x < M) (w : World) : Calls Try.prog 3 #[yv 32 x] w fun e w' => e = .returned (.bool true) ∧ Grown w w' := by
  have h0 : (w.alloc (.cells (yl 32 x).toArray 22)).rangeAt w.heap.size 0 (yl 32 x) ∧ Grown w (w.alloc (.cells (yl 32 x).toArray 22)) := ⟨rangeAt_alloc_new w 22 (yl 32 x), Grown.alloc (Grown.refl _) _ _⟩
  rw [yv]
  go_enter Try.func3, Try.ntmps3
  go_wp2_with (with_reducible show wpList _ _ _ ({ dst := _, op := Op.load 22 _, type := _, pos := _, after := _, guard := _ } :: _) _ _; refine Shut.out ?_)
  show wpList _ _ _ _ _ _
  generalize (w.alloc (.cells (yl 32 x).toArray 22)) = W0 at *
  have H0 := Hid.of h0
  clear h0
  refine wpList_load32 rfl _ rfl w.heap.size rfl x H0.out.1 ?_
  simp only [Act.put, List.setIfInBounds_toArray, List.set_cons_zero, List.set_cons_succ]
  go_wp2_with fail
  refine Calls.mono (Clamp_num x _) ?_
  rintro e w1 ⟨rfl, g1⟩
  dsimp only
  have H1 := Hid.of (And.intro (rangeAt_grown H0.out.1 g1) (grown_trans H0.out.2 g1))
  clear H0 g1
  go_wp2_with (with_reducible show wpList _ _ _ ({ dst := _, op := Op.store 22 _ _, type := _, pos := _, after := _, guard := _ } :: _) _ _; refine Shut.out ?_)
  show wpList _ _ _ _ _ _
  refine wpList_store_new (cl x) (by simp) rfl rfl rfl rfl (fun w2 hg2 hr2 _ => ?_)
  simp only [Act.put]
  apply wpList_nil
  have H2 := Hid.of (And.intro (rangeAt_grown H1.out.1 hg2) (And.intro hr2 (grown_trans H1.out.2 hg2)))
  clear H1 hg2 hr2
  generalize w1.heap.size = bc at *
  have c0 : w2.cell? ⟨bc, 0, none⟩ = some (.int .u8 (dg 256 x 0 / 8 * 8 : Nat)) := by
    have := H2.out.2.1 0 _ (yl_get 32 (cl x) 0 (by decide)); rwa [cl_0] at this
  have c1 : w2.cell? ⟨bc, 31, none⟩ = some (.int .u8 (dg 256 x 31 % 64 + 64 : Nat)) := by
    have := H2.out.2.1 31 _ (yl_get 32 (cl x) 31 (by decide)); rwa [cl_31] at this
  have c2 : w2.cell? ⟨w.heap.size, 0, none⟩ = some (.int .u8 (dg 256 x 0 : Nat)) := H2.out.1 0 _ (yl_get 32 x 0 (by decide))
  have c3 : w2.cell? ⟨w.heap.size, 31, none⟩ = some (.int .u8 (dg 256 x 31 : Nat)) := H2.out.1 31 _ (yl_get 32 x 31 (by decide))
  have q0 : dg 256 x 0 < 256 := dg_lt (by decide)
  have q1 : dg 256 x 31 < 256 := dg_lt (by decide)
  obtain ⟨m1, m2, m3, m4, m5, m6, m7⟩ := cl_facts _ _ q0 q1
  generalize dg 256 x 31 % 64 + 64 = y1 at *
  generalize dg 256 x 0 / 8 * 8 = y0 at *
  generalize dg 256 x 0 = x0 at *
  generalize dg 256 x 31 = x1 at *
  go_wp2
  clear c0 c1 c2 c3 q0 q1 m1 m2 m3 m4 m5 m6 m7
  go_loopw [4] (fun v4 wr => ∃ i n : Nat, v4 = .int .i64 (i : Int) ∧ 1 ≤ i ∧ i ≤ 31 ∧ wr = w2.drewN n) (fun v4 _ => 31 - (intOf v4).toNat)
  case atStart => exact ⟨1, 0, rfl, by decide, by decide, rfl⟩
  case round =>
    obtain ⟨i, n, rfl, hi0, hi, rfl⟩ := hrel
    by_cases hlt : i < 31
    · have c0 : w2.cell? ⟨bc, i, none⟩ = some (.int .u8 (dg 256 x i : Nat)) := by
        have := H2.out.2.1 i _ (yl_get 32 (cl x) i (by omega)); rwa [Nat.zero_add, cl_mid x i (by omega) (by omega)] at this
      have c1 : w2.cell? ⟨w.heap.size, i, none⟩ = some (.int .u8 (dg 256 x i : Nat)) := by
        have := H2.out.1 i _ (yl_get 32 x i (by omega)); rwa [Nat.zero_add] at this
      generalize dg 256 x i = d at *
      have b1 : (i : Int) < 31 := Int.ofNat_lt.2 hlt
      go_wp2
      go_quiet (fail)
      go_wp2
      go_roundw
      case rel => exact ⟨i + 1, _, by go_num, by omega, by omega, rfl⟩
      case measure => simp [intOf]; omega
    · have hi3 : i = 31 := by omega
      subst hi3
      go_wp2
      refine wp_region_noPanic ?_
      refine wp_region_held_drew (S := fun w' => w'.rangeAt bc 0 (yl 32 (cl x)) ∧ Grown w w') (by kernel_rfl) ⟨H2.out.2.1, H2.out.2.2⟩ (fun hH => ?_)
      refine take32 0 (cl x) (bc) rfl (by kernel_rfl) (by kernel_rfl) (by kernel_rfl) (fun _ _ _ h => h) (by rfl) rfl rfl (fun _ h => h.1) hH ?_
      simp only [Act.put, List.setIfInBounds_toArray, List.set_cons_zero, List.set_cons_succ]
      refine take32 2 (cl x) (bc) rfl (by kernel_rfl) (by kernel_rfl) (by kernel_rfl) (fun _ _ _ h => h) (by rfl) rfl rfl (fun _ h => h.1) hH ?_
      simp only [Act.put, List.setIfInBounds_toArray, List.set_cons_zero, List.set_cons_succ]
      refine step1 1 (by kernel_rfl) rfl (fun K hK => ?_)
      go_simp
      refine Calls.mono (Clamp_num (cl x) _) ?_
      rintro e w5 ⟨rfl, hg5⟩
      dsimp only
      refine hK.out _ _ (⟨rangeAt_grown hH.1 hg5, grown_trans hH.2 hg5⟩) (fun hH => ?_)
      clear hK K
      refine takeV 3 (.bool true) rfl (by kernel_rfl) (by kernel_rfl) (by kernel_rfl) (fun _ _ _ h => h) (by rfl) (fun w _ => exec_eql_same rfl (cl (cl x)) (cl x) rfl rfl (cl_lt (cl_lt hx)) (cl_lt hx) (cl_cl x hx) w) hH ?_
      simp only [Act.put, List.setIfInBounds_toArray, List.set_cons_zero, List.set_cons_succ]
      refine takeV 4 (.bool true) rfl (by kernel_rfl) (by kernel_rfl) (by kernel_rfl) (fun _ _ _ h => h) (by rfl) (fun w _ => rfl) hH ?_
      simp only [Act.put, List.setIfInBounds_toArray, List.set_cons_zero, List.set_cons_succ]
      refine wpAnyH_done (by kernel_rfl) ?_ _
      refine NoPanic.normal ?_
      repeat go_step
      go_ret
      exact ⟨rfl, hH.2⟩
end Go.Proofs.Yteijccjdejjbjaa
