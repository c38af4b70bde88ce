import Derived.Test.YteijccjdejjbjaaDoorReduces
namespace Go.Proofs.YteijccjdejjbjaaDoor
open Go.RowKit Go.Shelf ScalarNum

theorem M_pow2 : M = 256 ^ 32 := by decide
theorem split_eq {v u : Nat} (hu : u = 2 ^ 256 % L) : sred v = smad (v / M) u (v % M) := by
  unfold sred smad
  rw [hu, show (2 : Nat) ^ 256 = M from by decide, Nat.add_mod, Nat.mul_mod_mod, ← Nat.add_mod, Nat.mul_comm, Nat.div_add_mod]
theorem pow2_step {u k : Nat} (hu : u = 2 ^ k % L) : sadd u u = 2 ^ (k + 1) % L := by
  unfold sadd
  rw [hu, ← Nat.add_mod, Nat.pow_succ, Nat.mul_two]
theorem pow2_ne {u : Nat} (hu : u = 2 ^ 256 % L) : ¬ u = 0 := by rw [hu]; decide

/-- the two halves -/
structure HX (w0 : World) (v i : Nat) (wr : World) : Prop where
  rv : wr.rangeAt w0.heap.size 0 (yl 64 v)
  rl : wr.rangeAt (w0.heap.size + 1) 0 (yl 32 (v % M % 256 ^ i))
  tl : wr.there (w0.heap.size + 1) 0 32
  rh : wr.rangeAt (w0.heap.size + 1 + 1) 0 (yl 32 (v / M % 256 ^ i))
  th : wr.there (w0.heap.size + 1 + 1) 0 32
  gw : Grown w0 wr
theorem HX.grown {w0 wr w' : World} {v i : Nat} (h : HX w0 v i wr) (hg : Grown wr w') : HX w0 v i w' :=
  ⟨rangeAt_grown h.rv hg, rangeAt_grown h.rl hg, there_grown h.tl hg, rangeAt_grown h.rh hg, there_grown h.th hg, grown_trans h.gw hg⟩
structure PX2 (w0 : World) (bp v u : Nat) (wr : World) : Prop where
  rv : wr.rangeAt w0.heap.size 0 (yl 64 v)
  rl : wr.rangeAt (w0.heap.size + 1) 0 (yl 32 (v % M))
  rh : wr.rangeAt (w0.heap.size + 1 + 1) 0 (yl 32 (v / M))
  rp : wr.rangeAt bp 0 (yl 32 u)
  tp : wr.there bp 0 32
  lt : w0.heap.size + 1 + 1 < bp
  gw : Grown w0 wr
theorem PX2.grown {w0 wr w' : World} {bp v u : Nat} (h : PX2 w0 bp v u wr) (hg : Grown wr w') : PX2 w0 bp v u w' :=
  ⟨rangeAt_grown h.rv hg, rangeAt_grown h.rl hg, rangeAt_grown h.rh hg, rangeAt_grown h.rp hg, there_grown h.tp hg, h.lt, grown_trans h.gw hg⟩
theorem PX2.store {w0 wr : World} {bp v u : Nat} (h : PX2 w0 bp v u wr) (n : Nat) : PX2 w0 bp v n (wr.setCells bp 0 (yl 32 n)) := by
  have h1 := h.lt
  exact ⟨World.rangeAt_setCells_apart h.rv _ _ _ (.inl (by omega)), World.rangeAt_setCells_apart h.rl _ _ _ (.inl (by omega)), World.rangeAt_setCells_apart h.rh _ _ _ (.inl (by omega)), World.rangeAt_setCells_same _ _ _ _ (by rw [yl_length]; exact h.tp), World.there_setCells h.tp _ _ _, h.lt, grown_setCells (by omega) _ _ h.gw⟩

set_option maxRecDepth 100000 in
set_option maxHeartbeats 4000000 in
theorem splits_walk (v : Nat) (hv : v < M * M) (w : World) (hT : Tab w) : Calls Tryd.prog 4 #[yv 64 v] w fun e w' => e = .returned (.bool true) ∧ Grown w w' := by
  have h0 := alloc3 w 22 23 23 (yl 64 v) (yl 32 0).toArray (yl 32 0)
  have h1 : ((w.alloc (.cells (yl 64 v).toArray 22)).alloc (.cells (yl 32 0).toArray 23)).rangeAt (w.heap.size + 1) 0 (yl 32 0) := by
    have := rangeAt_alloc_new (w.alloc (.cells (yl 64 v).toArray 22)) 23 (yl 32 0)
    rwa [show (w.alloc (.cells (yl 64 v).toArray 22)).heap.size = w.heap.size + 1 by simp] at this
  have h2 := rangeAt_grown h1 (Grown.alloc (Grown.refl _) (yl 32 0).toArray 23)
  rw [show (yl 32 0).toArray.size = 32 from rfl, show (yl 32 0).length = 32 from rfl] at h0
  have HT := Hid.of hT
  have HM := Hid.of hv
  clear hT hv h1
  rw [yv]
  go_enter Tryd.func4, Tryd.ntmps4
  go_wp2
  rw [← yl32_zero]
  generalize (((w.alloc (.cells (yl 64 v).toArray 22)).alloc (.cells (yl 32 0).toArray 23)).alloc (.cells (yl 32 0).toArray 23)) = W0 at *
  have H0 := Hid.of (show HX w v 0 W0 from ⟨h0.1, by rw [Nat.pow_zero, Nat.mod_one]; exact h2, h0.2.1, by rw [Nat.pow_zero, Nat.mod_one]; exact h0.2.2.1, h0.2.2.2.1, h0.2.2.2.2⟩)
  clear h0 h2
  go_loopw [5] (fun v5 wr => ∃ i : Nat, v5 = .int .i64 (i : Int) ∧ i ≤ 32 ∧ HX w v i wr) (fun v5 _ => 32 - (intOf v5).toNat)
  case atStart => exact ⟨0, rfl, by decide, H0.out⟩
  case round =>
    obtain ⟨i, rfl, hi, hX⟩ := hrel
    clear H0
    by_cases hlt : i < 32
    · have c1 : wr.cell? ⟨w.heap.size, i, none⟩ = some (.int .u8 (dg 256 (v % M) i : Nat)) := by
        have := hX.rv i _ (yl_get 64 v i (by omega)); rw [Nat.zero_add] at this; rw [dgb_mod v i hlt]; exact this
      have c2 : wr.cell? ⟨w.heap.size, 32 + i, none⟩ = some (.int .u8 (dg 256 (v / M) i : Nat)) := by
        have := hX.rv (32 + i) _ (yl_get 64 v (32 + i) (by omega)); rw [Nat.zero_add] at this; rw [dgb_div v i]; exact this
      have f1 : wr.frozen? ⟨w.heap.size + 1, i, none⟩ = false := by
        have := (hX.tl i hlt).2; rwa [Nat.zero_add] at this
      have f2 : wr.frozen? ⟨w.heap.size + 1 + 1, i, none⟩ = false := by
        have := (hX.th i hlt).2; rwa [Nat.zero_add] at this
      have e1 := hX.rl i _ (yl_get 32 _ i hlt)
      have e2 := hX.rh i _ (yl_get 32 _ i hlt)
      rw [Nat.zero_add] at e1 e2
      generalize (Value.int IntKind.u8 (dg 256 (v % M % 256 ^ i) i : Nat)) = u1 at e1
      generalize (Value.int IntKind.u8 (dg 256 (v / M % 256 ^ i) i : Nat)) = u2 at e2
      have s1 := by_step (v % M) i
      have s2 := by_step (v / M) i
      have p1 : dg 256 (v % M) i < 256 := dg_lt (by decide)
      have p2 : dg 256 (v / M) i < 256 := dg_lt (by decide)
      generalize dg 256 (v % M) i = x1 at *
      generalize dg 256 (v / M) i = x2 at *
      have b1 : (i : Int) < 32 := Int.ofNat_lt.2 hlt
      have HY := Hid.of (And.intro s1 (And.intro s2 (And.intro p1 (And.intro p2 hX))))
      clear s1 s2 p1 p2 hX
      go_wp2
      go_roundw
      case rel =>
        obtain ⟨s1, s2, p1, p2, hX⟩ := HY.out
        refine ⟨i + 1, by go_num, by omega, ?_⟩
        have r1 := range_put (yrange_set hX.rl p1 hlt) (w.heap.size + 1 + 1) i (by omega) (.int .u8 (x2 : Int))
        rw [s1] at r1
        have r2 := yrange_set (range_put hX.rh (w.heap.size + 1) i (by omega) (.int .u8 (x1 : Int))) p2 hlt
        rw [s2] at r2
        exact ⟨range_put (range_put hX.rv _ _ (by omega) _) _ _ (by omega) _, r1, there_setCell (there_setCell hX.tl _ _) _ _, r2, there_setCell (there_setCell hX.th _ _) _ _, Grown.setCell (Grown.setCell hX.gw (by show _ ≤ w.heap.size + 1; omega) _) (by show _ ≤ w.heap.size + 1 + 1; omega) _⟩
      case measure => simp [intOf]; omega
    · have hi32 : i = 32 := by omega
      subst hi32
      have e1 : v % M % 256 ^ 32 = v % M := by rw [← M_pow2]; exact Nat.mod_mod _ _
      have e2 : v / M % 256 ^ 32 = v / M := by rw [← M_pow2]; exact Nat.mod_eq_of_lt (Nat.div_lt_of_lt_mul HM.out)
      obtain ⟨rv, rl, tl, rh, th, gw⟩ := hX
      rw [e1] at rl
      rw [e2] at rh
      have H1 := Hid.of (And.intro rv (And.intro rl (And.intro rh gw)))
      clear rv rl tl rh th gw e1 e2 hi hlt
      go_wp2_with fail
      refine Calls.mono (number_nat 1 (by decide) 1 rfl _) ?_
      rintro e w1 ⟨rfl, g1⟩
      dsimp only
      have H2 := Hid.of (And.intro (rangeAt_grown H1.out.1 g1) (And.intro (rangeAt_grown H1.out.2.1 g1) (And.intro (rangeAt_grown H1.out.2.2.1 g1) (grown_trans H1.out.2.2.2 g1))))
      have hlb : w.heap.size + 1 + 1 < w1.heap.size := range_lt H2.out.2.2.1 (by rw [yl_length]; decide)
      clear H1 g1
      go_wp2_with (with_reducible show wpList _ _ _ ({ dst := _, op := Op.store 23 _ _, type := _, pos := _, after := _, guard := _ } :: _) _ _; refine Shut.out ?_)
      show wpList _ _ _ _ _ _
      refine wpList_store_new 1 (by simp) rfl rfl rfl rfl (fun w2 hg2 hr2 ht2 => ?_)
      simp only [Act.put]
      apply wpList_nil
      have HP := Hid.of (show PX2 w w1.heap.size v 1 w2 from ⟨rangeAt_grown H2.out.1 hg2, rangeAt_grown H2.out.2.1 hg2, rangeAt_grown H2.out.2.2.1 hg2, hr2, ht2, hlb, grown_trans H2.out.2.2.2 hg2⟩)
      clear H2 hg2 hr2 ht2
      generalize w1.heap.size = bp at *
      go_wp2
      go_loopw [7] (fun v7 wr => ∃ k u : Nat, v7 = .int .i64 (k : Int) ∧ k ≤ 256 ∧ u = 2 ^ k % L ∧ PX2 w bp v u wr) (fun v7 _ => 256 - (intOf v7).toNat)
      case atStart => exact ⟨0, 1, rfl, by decide, by decide, HP.out⟩
      case round =>
        obtain ⟨k, u, rfl, hk, hu, hP⟩ := hrel
        clear HP
        have HU := Hid.of hu
        have huM : u < M := by rw [hu]; exact modL_ltM _
        have HQ := Hid.of hP
        clear hu hP
        by_cases hkl : k < 256
        · have b1 : (k : Int) < 256 := Int.ofNat_lt.2 hkl
          go_wp2_with (with_reducible show wpList _ _ _ ({ dst := _, op := Op.load 23 _, type := _, pos := _, after := _, guard := _ } :: _) _ _; refine Shut.out ?_)
          show wpList _ _ _ _ _ _
          refine wpList_load32 rfl _ rfl bp rfl u HQ.out.rp ?_
          simp only [Act.put, List.setIfInBounds_toArray, List.set_cons_zero, List.set_cons_succ]
          refine wpList_load32 rfl _ rfl bp rfl u HQ.out.rp ?_
          simp only [Act.put, List.setIfInBounds_toArray, List.set_cons_zero, List.set_cons_succ]
          go_wp2_with fail
          refine Calls.mono (Add_num u u huM huM _ (HT.out.grown HQ.out.gw)) ?_
          rintro e w3 ⟨rfl, g3⟩
          dsimp only
          have HQ2 := Hid.of (HQ.out.grown g3)
          clear HQ g3
          go_wp2_with (with_reducible show wpList _ _ _ ({ dst := _, op := Op.store 23 _ _, type := _, pos := _, after := _, guard := _ } :: _) _ _; refine Shut.out ?_)
          show wpList _ _ _ _ _ _
          refine wpList_store32 rfl _ _ rfl bp (sadd u u) rfl rfl HQ2.out.tp ?_
          simp only [Act.put]
          apply wpList_nil
          have HQ3 := Hid.of (HQ2.out.store (sadd u u))
          have HU2 := Hid.of (pow2_step HU.out)
          clear HQ2 HU
          generalize w3.setCells bp 0 (yl 32 (sadd u u)) = w4 at *
          go_wp2
          go_roundw
          case rel => exact ⟨k + 1, sadd u u, by go_num, by omega, HU2.out, HQ3.out⟩
          case measure => simp [intOf]; omega
        · have hk256 : k = 256 := by omega
          subst hk256
          have hne := Hid.of (pow2_ne HU.out)
          have hsp := Hid.of (split_eq (v := v) HU.out)
          clear HU hk hkl
          go_wp2
          refine wp_region_noPanic ?_
          refine wp_region_held_drew (S := PX2 w bp v u) (by kernel_rfl) (HQ.out.grown (Grown.drew (Grown.refl _))) (fun hH => ?_)
          clear HQ
          refine take32 0 (u) (bp) rfl (by kernel_rfl) (by kernel_rfl) (by kernel_rfl) (fun _ _ _ h => h) (by rfl) rfl rfl (fun _ h => h.rp) hH ?_
          simp only [Act.put, List.setIfInBounds_toArray, List.set_cons_zero, List.set_cons_succ]
          refine step1 1 (by kernel_rfl) rfl (fun K hK => ?_)
          go_simp
          refine Calls.mono (number_nat 0 (by decide) 0 rfl _) ?_
          rintro e w5 ⟨rfl, hg5⟩
          dsimp only
          refine hK.out _ _ (hH.grown hg5) (fun hH => ?_)
          clear hK K
          refine takeV 2 (.bool false) rfl (by kernel_rfl) (by kernel_rfl) (by kernel_rfl) (fun _ _ _ h => h) (by rfl) (fun w _ => exec_eql_apart rfl u 0 rfl rfl huM (by decide) hne.out w) hH ?_
          simp only [Act.put, List.setIfInBounds_toArray, List.set_cons_zero, List.set_cons_succ]
          refine wpAnyH_done (by kernel_rfl) ?_ _
          refine NoPanic.normal ?_
          have HQ := Hid.of hH
          clear hH hg5
          go_wp2
          refine wp_region_noPanic ?_
          refine wp_region_held_drew (S := PX2 w bp v u) (by kernel_rfl) (HQ.out.grown (Grown.drew (Grown.refl _))) (fun hH => ?_)
          clear HQ
          refine take64 0 v w.heap.size rfl (by kernel_rfl) (by kernel_rfl) (by kernel_rfl) (fun _ _ _ h => h) (by rfl) rfl rfl (fun _ h => h.rv) hH ?_
          simp only [Act.put, List.setIfInBounds_toArray, List.set_cons_zero, List.set_cons_succ]
          refine take32 2 (v / M) (w.heap.size + 1 + 1) rfl (by kernel_rfl) (by kernel_rfl) (by kernel_rfl) (fun _ _ _ h => h) (by rfl) rfl rfl (fun _ h => h.rh) hH ?_
          simp only [Act.put, List.setIfInBounds_toArray, List.set_cons_zero, List.set_cons_succ]
          refine take32 3 (u) (bp) rfl (by kernel_rfl) (by kernel_rfl) (by kernel_rfl) (fun _ _ _ h => h) (by rfl) rfl rfl (fun _ h => h.rp) hH ?_
          simp only [Act.put, List.setIfInBounds_toArray, List.set_cons_zero, List.set_cons_succ]
          refine take32 4 (v % M) (w.heap.size + 1) rfl (by kernel_rfl) (by kernel_rfl) (by kernel_rfl) (fun _ _ _ h => h) (by rfl) rfl rfl (fun _ h => h.rl) hH ?_
          simp only [Act.put, List.setIfInBounds_toArray, List.set_cons_zero, List.set_cons_succ]
          refine step1 1 (by kernel_rfl) rfl (fun K hK => ?_)
          go_simp
          refine Calls.mono (Reduce_num v HM.out _ (HT.out.grown hH.gw)) ?_
          rintro e w6 ⟨rfl, hg6⟩
          dsimp only
          refine hK.out _ _ (hH.grown hg6) (fun hH => ?_)
          clear hK K
          refine step1 5 (by kernel_rfl) rfl (fun K hK => ?_)
          go_simp
          refine Calls.mono (MulAdd_num (v / M) u (v % M) (Nat.div_lt_of_lt_mul HM.out) huM (Nat.mod_lt _ (by decide)) _ (HT.out.grown hH.gw)) ?_
          rintro e w7 ⟨rfl, hg7⟩
          dsimp only
          refine hK.out _ _ (hH.grown hg7) (fun hH => ?_)
          clear hK K
          refine takeV 6 (.bool true) rfl (by kernel_rfl) (by kernel_rfl) (by kernel_rfl) (fun _ _ _ h => h) (by rfl) (fun w _ => exec_eql_same rfl (sred v) (smad (v / M) u (v % M)) rfl rfl (sred_lt v) (smad_lt _ _ _) hsp.out w) hH ?_
          simp only [Act.put, List.setIfInBounds_toArray, List.set_cons_zero, List.set_cons_succ]
          refine takeV 7 (.bool true) rfl (by kernel_rfl) (by kernel_rfl) (by kernel_rfl) (fun _ _ _ h => h) (by rfl) (fun w _ => rfl) hH ?_
          simp only [Act.put, List.setIfInBounds_toArray, List.set_cons_zero, List.set_cons_succ]
          refine wpAnyH_done (by kernel_rfl) ?_ _
          refine NoPanic.normal ?_
          repeat go_step
          go_ret
          exact ⟨rfl, hH.gw⟩
end Go.Proofs.YteijccjdejjbjaaDoor
