import Derived.Test.YteijccjdejjbjaaDoorInverts
import Derived.Test.YteijccjdejjbjaaDoorRs
import Derived.Test.YteijccjdejjbjaaDoorRn
import Derived.Deep.DeepCutAuto
namespace Go.Proofs.YteijccjdejjbjaaDoor
open Go.RowKit Go.Shelf ScalarNum

section
variable {ops : Array Oper} {Q : Exit → Act → World → Prop} {md : Region.Mode} {S : World → Prop} {fuel : Nat} {listed : Array Bool} {a : Act} {w : World}
theorem step3 (i j k : Nat) {o o' o'' : Oper} (hr : Region.ready md ops listed = [i, j, k]) (hi : ops.toList[i]? = some o) (hj : ops.toList[j]? = some o') (hk : ops.toList[k]? = some o'')
    (h : ∀ K' : Act → World → Prop, Shut (∀ a w, S w → (S w → wpAnyH Tryd.prog md ops Q S fuel (listed.setIfInBounds i true) a w) → K' a w) → if Region.wanted o (yielded ops a.tmps) = true then Oper.wp Tryd.prog o a w K' Q else K' (a.put o.dst undef) w)
    (h' : ∀ K' : Act → World → Prop, Shut (∀ a w, S w → (S w → wpAnyH Tryd.prog md ops Q S fuel (listed.setIfInBounds j true) a w) → K' a w) → if Region.wanted o' (yielded ops a.tmps) = true then Oper.wp Tryd.prog o' a w K' Q else K' (a.put o'.dst undef) w)
    (h'' : ∀ K' : Act → World → Prop, Shut (∀ a w, S w → (S w → wpAnyH Tryd.prog md ops Q S fuel (listed.setIfInBounds k true) a w) → K' a w) → if Region.wanted o'' (yielded ops a.tmps) = true then Oper.wp Tryd.prog o'' a w K' Q else K' (a.put o''.dst undef) w) :
    wpAnyH Tryd.prog md ops Q S (fuel + 1) listed a w :=
  wpAnyH_ready hr (by simp) (AllReadyH.cons (by rw [← Array.getElem?_toList]; exact hi) h (AllReadyH.cons (by rw [← Array.getElem?_toList]; exact hj) h' (AllReadyH.cons (by rw [← Array.getElem?_toList]; exact hk) h'' AllReadyH.nil)))
theorem load_op {o : Oper} {K : Act → World → Prop} (n b : Nat) {x : Operand} (ho : o.op = .load 23 x) (hx : a.eval x = .pointer (some ⟨b, 0, none⟩)) (hc : w.rangeAt b 0 (yl 32 n)) (h : K (a.put o.dst (yv 32 n)) w) : Oper.wp Tryd.prog o a w K Q :=
  wp_load_mid 23 x ho b 0 hx (yl 32 n) _ hc Tryd.underlying23 rfl (by rw [yl_length]; exact info32) h
end

/-- what the variables hold -/
structure FX2 (w0 : World) (be bp a e v : Nat) (wr : World) : Prop where
  ra : wr.rangeAt w0.heap.size 0 (yl 32 a)
  re : wr.rangeAt be 0 (yl 32 e)
  rp : wr.rangeAt bp 0 (yl 32 v)
  tp : wr.there bp 0 32
  l1 : w0.heap.size < be
  l2 : be < bp
  gw : Grown w0 wr
theorem FX2.grown {w0 wr w' : World} {be bp a e v : Nat} (h : FX2 w0 be bp a e v wr) (hg : Grown wr w') : FX2 w0 be bp a e v w' :=
  ⟨rangeAt_grown h.ra hg, rangeAt_grown h.re hg, rangeAt_grown h.rp hg, there_grown h.tp hg, h.l1, h.l2, grown_trans h.gw hg⟩
theorem FX2.drew {w0 wr : World} {be bp a e v : Nat} (h : FX2 w0 be bp a e v wr) : FX2 w0 be bp a e v wr.drew := h.grown (Grown.drew (Grown.refl _))
theorem FX2.store {w0 wr : World} {be bp a e v : Nat} (h : FX2 w0 be bp a e v wr) (n : Nat) : FX2 w0 be bp a e n (wr.setCells bp 0 (yl 32 n)) := by
  have h1 := h.l1
  have h2 := h.l2
  exact ⟨World.rangeAt_setCells_apart h.ra _ _ _ (.inl (by omega)), World.rangeAt_setCells_apart h.re _ _ _ (.inl (by omega)), World.rangeAt_setCells_same _ _ _ _ (by rw [yl_length]; exact h.tp), World.there_setCells h.tp _ _ _, h.l1, h.l2, grown_setCells (by omega) _ _ h.gw⟩

theorem bit_pow (e i : Nat) : e / 2 ^ i = e / 2 ^ (i + 1) * 2 + e / 2 ^ i % 2 := by
  rw [Nat.pow_succ, ← Nat.div_div_eq_div_mul]; omega
theorem eq1_of (b : Nat) (h : b = 0 ∨ b = 1) : ((b : Int) = 1 ∧ b = 1) ∨ (¬ (b : Int) = 1 ∧ b = 0) := by omega

set_option maxRecDepth 100000 in
set_option maxHeartbeats 8000000 in
theorem fermat_walk (a e : Nat) (haM : a < M) (he : Hid (e = L - 1)) (w : World) (hT : Tab w) (hfin : Hid ((sred a = 0 ∧ a ^ e % L = 0) ∨ (¬ sred a = 0 ∧ a ^ e % L = 1))) :
    Calls Tryd.prog 6 #[yv 32 a] w fun r w' => r = .returned (.bool true) ∧ Grown w w' := by
  have h0 : (w.alloc (.cells (yl 32 a).toArray 23)).rangeAt w.heap.size 0 (yl 32 a) ∧ Grown w (w.alloc (.cells (yl 32 a).toArray 23)) := ⟨rangeAt_alloc_new w 23 (yl 32 a), Grown.alloc (Grown.refl _) _ _⟩
  have HT := Hid.of hT
  clear hT
  rw [yv]
  go_enter Tryd.func6, Tryd.ntmps6
  go_wp2_with fail
  generalize (w.alloc (.cells (yl 32 a).toArray 23)) = W0 at *
  have H0 := Hid.of h0
  clear h0
  refine Calls.mono (Order_num _ (HT.out.grown H0.out.2)) ?_
  rintro r w1 ⟨rfl, g1⟩
  dsimp only
  have H1 := Hid.of (And.intro (rangeAt_grown H0.out.1 g1) (grown_trans H0.out.2 g1))
  have hl1 : w.heap.size < w1.heap.size := range_lt H1.out.1 (by rw [yl_length]; decide)
  clear H0 g1
  go_wp2_with (with_reducible show wpList _ _ _ ({ dst := _, op := Op.store 23 _ _, type := _, pos := _, after := _, guard := _ } :: _) _ _; refine Shut.out ?_)
  show wpList _ _ _ _ _ _
  refine wpList_store_new L (by simp) rfl rfl rfl rfl (fun w2 hg2 hr2 ht2 => ?_)
  simp only [Act.put]
  apply wpList_nil
  have d1 : w2.cell? ⟨w1.heap.size, 0, none⟩ = some (.int .u8 237) := hr2 0 _ (yl_get 32 L 0 (by decide))
  have d3 : w2.cell? ⟨w1.heap.size, 31, none⟩ = some (.int .u8 16) := hr2 31 _ (yl_get 32 L 31 (by decide))
  have d2 : w2.frozen? ⟨w1.heap.size, 0, none⟩ = false := (ht2 0 (by decide)).2
  have H2 := Hid.of (show (w2.setCell ⟨w1.heap.size, 0, none⟩ (.int .u8 236)).rangeAt w.heap.size 0 (yl 32 a) ∧ (w2.setCell ⟨w1.heap.size, 0, none⟩ (.int .u8 236)).rangeAt w1.heap.size 0 (yl 32 e) ∧ Grown w (w2.setCell ⟨w1.heap.size, 0, none⟩ (.int .u8 236)) from by
    refine ⟨range_put (rangeAt_grown H1.out.1 hg2) _ _ (by omega) _, ?_, Grown.setCell (grown_trans H1.out.2 hg2) (by show _ ≤ w1.heap.size; omega) _⟩
    rw [he.out, ← order_less]
    exact yrange_set (z := 236) hr2 (by decide) (by decide))
  clear H1 hg2 hr2 ht2
  go_wp2_with fail
  generalize (w2.setCell ⟨w1.heap.size, 0, none⟩ (.int .u8 236)) = W3 at *
  generalize w1.heap.size = be at *
  clear d1 d2 d3
  refine Calls.mono (number_nat 1 (by decide) 1 rfl _) ?_
  rintro r w4 ⟨rfl, g4⟩
  dsimp only
  have H4 := Hid.of (And.intro (rangeAt_grown H2.out.1 g4) (And.intro (rangeAt_grown H2.out.2.1 g4) (grown_trans H2.out.2.2 g4)))
  have hl2 : be < w4.heap.size := range_lt H4.out.2.1 (by rw [yl_length]; decide)
  clear H2 g4
  go_wp2_with (with_reducible show wpList _ _ _ ({ dst := _, op := Op.store 23 _ _, type := _, pos := _, after := _, guard := _ } :: _) _ _; refine Shut.out ?_)
  show wpList _ _ _ _ _ _
  refine wpList_store_new 1 (by simp) rfl rfl rfl rfl (fun w5 hg5 hr5 ht5 => ?_)
  simp only [Act.put]
  apply wpList_nil
  have HF0 := Hid.of (show FX2 w be w4.heap.size a e 1 w5 from ⟨rangeAt_grown H4.out.1 hg5, rangeAt_grown H4.out.2.1 hg5, hr5, ht5, hl1, hl2, grown_trans H4.out.2.2 hg5⟩)
  clear H4 hg5 hr5 ht5
  generalize w4.heap.size = bp at *
  go_wp2
  go_loopw [5] (fun v5 wr => ∃ k v : Nat, v5 = .int .i64 ((k : Int) - 1) ∧ k ≤ 256 ∧ v = a ^ (e / 2 ^ k) % L ∧ FX2 w be bp a e v wr) (fun v5 _ => (intOf v5 + 1).toNat)
  case atStart =>
    refine ⟨256, 1, rfl, by decide, ?_, HF0.out⟩
    rw [he.out, show (L - 1) / 2 ^ 256 = 0 from by decide, Nat.pow_zero]
    decide
  case round =>
    obtain ⟨k, v, rfl, hk, hv, hF⟩ := hrel
    clear HF0
    have HV := Hid.of hv
    have hvM : v < M := by rw [hv]; exact modL_ltM _
    have HF := Hid.of hF
    clear hv hF
    rcases Nat.eq_zero_or_pos k with rfl | hpos
    · have ev : v = a ^ e % L := by rw [HV.out, Nat.pow_zero, Nat.div_one]
      have HV2 := Hid.of ev
      clear HV ev hk
      skip
      go_wp2_with (with_reducible show wpList _ _ _ ({ dst := _, op := Op.load 23 _, type := _, pos := _, after := _, guard := _ } :: _) _ _; refine Shut.out ?_)
      show wpList _ _ _ _ _ _
      refine wpList_load32 rfl _ rfl w.heap.size rfl a HF.out.ra ?_
      simp only [Act.put, List.setIfInBounds_toArray, List.set_cons_zero, List.set_cons_succ]
      go_wp2_with fail
      refine Calls.mono (cut_num a haM _ (HT.out.grown HF.out.gw)) ?_
      rintro r w5 ⟨rfl, g5⟩
      dsimp only
      go_wp2_with fail
      refine Calls.mono (number_nat 0 (by decide) 0 rfl _) ?_
      rintro r w6 ⟨rfl, g6⟩
      dsimp only
      go_step
      have H6 := Hid.of (HF.out.grown (grown_trans g5 g6))
      clear HF g5 g6
      rcases hfin.out with ⟨z0, z1⟩ | ⟨z0, z1⟩
      · have Z0 := Hid.of z0
        have Z1 := Hid.of (HV2.out.trans z1)
        clear z0 z1 HV2 hfin
        refine wpList_val (.bool true) rfl (exec_eql_same rfl (sred a) 0 rfl rfl (sred_lt a) (by decide) Z0.out _) ?_
        simp only [Act.put, List.setIfInBounds_toArray, List.set_cons_zero, List.set_cons_succ]
        apply wpList_nil
        go_wp2
        refine wp_region_noPanic ?_
        refine wp_region_held_drew (S := FX2 w be bp a e v) (by kernel_rfl) H6.out.drew (fun hH => ?_)
        refine take32 0 (v) (bp) rfl (by kernel_rfl) (by kernel_rfl) (by kernel_rfl) (fun _ _ _ h => h) (by rfl) rfl rfl (fun _ h => h.rp) hH ?_
        simp only [Act.put, List.setIfInBounds_toArray, List.set_cons_zero, List.set_cons_succ]
        refine step1 1 (by kernel_rfl) rfl (fun K hK => ?_)
        go_simp
        refine Calls.mono (number_nat 0 (by decide) 0 rfl _) ?_
        rintro e w7 ⟨rfl, hg7⟩
        dsimp only
        refine hK.out _ _ (hH.grown hg7) (fun hH => ?_)
        clear hK K
        refine takeV 2 (.bool true) rfl (by kernel_rfl) (by kernel_rfl) (by kernel_rfl) (fun _ _ _ h => h) (by rfl) (fun w _ => exec_eql_same rfl v 0 rfl rfl hvM (by decide) (Z1.out) w) hH ?_
        simp only [Act.put, List.setIfInBounds_toArray, List.set_cons_zero, List.set_cons_succ]
        refine takeV 3 (.bool true) rfl (by kernel_rfl) (by kernel_rfl) (by kernel_rfl) (fun _ _ _ h => h) (by rfl) (fun w _ => rfl) hH ?_
        simp only [Act.put, List.setIfInBounds_toArray, List.set_cons_zero, List.set_cons_succ]
        refine wpAnyH_done (by kernel_rfl) ?_ _
        refine NoPanic.normal ?_
        repeat go_step
        go_ret
        exact ⟨rfl, hH.gw⟩
      · have Z0 := Hid.of z0
        have Z1 := Hid.of (HV2.out.trans z1)
        clear z0 z1 HV2 hfin
        refine wpList_val (.bool false) rfl (exec_eql_apart rfl (sred a) 0 rfl rfl (sred_lt a) (by decide) Z0.out _) ?_
        simp only [Act.put, List.setIfInBounds_toArray, List.set_cons_zero, List.set_cons_succ]
        apply wpList_nil
        go_wp2
        refine wp_region_noPanic ?_
        refine wp_region_held_drew (S := FX2 w be bp a e v) (by kernel_rfl) H6.out.drew (fun hH => ?_)
        refine take32 0 (v) (bp) rfl (by kernel_rfl) (by kernel_rfl) (by kernel_rfl) (fun _ _ _ h => h) (by rfl) rfl rfl (fun _ h => h.rp) hH ?_
        simp only [Act.put, List.setIfInBounds_toArray, List.set_cons_zero, List.set_cons_succ]
        refine step1 1 (by kernel_rfl) rfl (fun K hK => ?_)
        go_simp
        refine Calls.mono (number_nat 1 (by decide) 1 rfl _) ?_
        rintro e w7 ⟨rfl, hg7⟩
        dsimp only
        refine hK.out _ _ (hH.grown hg7) (fun hH => ?_)
        clear hK K
        refine takeV 2 (.bool true) rfl (by kernel_rfl) (by kernel_rfl) (by kernel_rfl) (fun _ _ _ h => h) (by rfl) (fun w _ => exec_eql_same rfl v 1 rfl rfl hvM (by decide) (Z1.out) w) hH ?_
        simp only [Act.put, List.setIfInBounds_toArray, List.set_cons_zero, List.set_cons_succ]
        refine takeV 3 (.bool true) rfl (by kernel_rfl) (by kernel_rfl) (by kernel_rfl) (fun _ _ _ h => h) (by rfl) (fun w _ => rfl) hH ?_
        simp only [Act.put, List.setIfInBounds_toArray, List.set_cons_zero, List.set_cons_succ]
        refine wpAnyH_done (by kernel_rfl) ?_ _
        refine NoPanic.normal ?_
        repeat go_step
        go_ret
        exact ⟨rfl, hH.gw⟩
    · obtain ⟨i, rfl⟩ : ∃ i, k = i + 1 := ⟨k - 1, by omega⟩
      have ei : ((i + 1 : Nat) : Int) - 1 = (i : Int) := by omega
      rw [ei]
      clear ei
      have b1 : (i : Int) < 256 := by omega
      go_upto_region 9 with (fail)
      go_cut [] (fun wc => FX2 w be bp a e (smad v v 0) wc)
      case first =>
        refine wp_region_noPanic ?_
        refine wp_region_held_drew (S := fun _ => True) (by kernel_rfl) trivial (fun _ => ?_)
        have H0 := Hid.of (HF.out.drew)
        clear HF
        refine step3 0 1 2 (by kernel_rfl) rfl rfl rfl (fun K hK => ?_) (fun K hK => ?_) (fun K hK => ?_)
        · skip
          rw [if_pos (by rfl)]
          refine load_op (v) (bp) rfl rfl (H0.out.rp) ?_
          simp only [Act.put, List.setIfInBounds_toArray, List.set_cons_zero, List.set_cons_succ]
          refine hK.out _ _ trivial (fun _ => ?_)
          clear hK K
          refine step2 1 2 (by kernel_rfl) rfl rfl (fun K hK => ?_) (fun K hK => ?_)
          · skip
            rw [if_pos (by rfl)]
            refine load_op (v) (bp) rfl rfl (H0.out.rp) ?_
            simp only [Act.put, List.setIfInBounds_toArray, List.set_cons_zero, List.set_cons_succ]
            refine hK.out _ _ trivial (fun _ => ?_)
            clear hK K
            refine step1 2 (by kernel_rfl) rfl (fun K hK => ?_)
            rw [if_pos (by rfl)]
            go_simp
            refine Calls.mono (number_nat 0 (by decide) 0 rfl _) ?_
            rintro e w1 ⟨rfl, hg1⟩
            dsimp only
            have H1 := Hid.of (H0.out.grown hg1)
            clear hg1
            refine hK.out _ _ trivial (fun _ => ?_)
            clear hK K
            refine step1 3 (by kernel_rfl) rfl (fun K hK => ?_)
            rw [if_pos (by rfl)]
            go_simp
            refine Calls.mono (MulAdd_num (v) (v) 0 hvM hvM (by decide) _ (HT.out.grown H1.out.gw)) ?_
            rintro e w2 ⟨rfl, hg2⟩
            dsimp only
            have H2 := Hid.of (H1.out.grown hg2)
            clear hg2
            refine hK.out _ _ trivial (fun _ => ?_)
            clear hK K
            refine step1 4 (by kernel_rfl) rfl (fun K hK => ?_)
            refine store32 (smad v v 0) (bp) rfl (by rfl) rfl rfl H2.out.tp ?_
            simp only [Act.put]
            have H3 := Hid.of (H2.out.store (smad v v 0))
            refine hK.out _ _ trivial (fun _ => ?_)
            clear hK K
            refine wpAnyH_done (by kernel_rfl) ?_ _
            refine NoPanic.normal ?_
            go_wp2
            go_meet
            case rel => exact H3.out
          · skip
            rw [if_pos (by rfl)]
            go_simp
            refine Calls.mono (number_nat 0 (by decide) 0 rfl _) ?_
            rintro e w1 ⟨rfl, hg1⟩
            dsimp only
            have H1 := Hid.of (H0.out.grown hg1)
            clear hg1
            refine hK.out _ _ trivial (fun _ => ?_)
            clear hK K
            refine step1 1 (by kernel_rfl) rfl (fun K hK => ?_)
            rw [if_pos (by rfl)]
            refine load_op (v) (bp) rfl rfl (H1.out.rp) ?_
            simp only [Act.put, List.setIfInBounds_toArray, List.set_cons_zero, List.set_cons_succ]
            refine hK.out _ _ trivial (fun _ => ?_)
            clear hK K
            refine step1 3 (by kernel_rfl) rfl (fun K hK => ?_)
            rw [if_pos (by rfl)]
            go_simp
            refine Calls.mono (MulAdd_num (v) (v) 0 hvM hvM (by decide) _ (HT.out.grown H1.out.gw)) ?_
            rintro e w2 ⟨rfl, hg2⟩
            dsimp only
            have H2 := Hid.of (H1.out.grown hg2)
            clear hg2
            refine hK.out _ _ trivial (fun _ => ?_)
            clear hK K
            refine step1 4 (by kernel_rfl) rfl (fun K hK => ?_)
            refine store32 (smad v v 0) (bp) rfl (by rfl) rfl rfl H2.out.tp ?_
            simp only [Act.put]
            have H3 := Hid.of (H2.out.store (smad v v 0))
            refine hK.out _ _ trivial (fun _ => ?_)
            clear hK K
            refine wpAnyH_done (by kernel_rfl) ?_ _
            refine NoPanic.normal ?_
            go_wp2
            go_meet
            case rel => exact H3.out
        · skip
          rw [if_pos (by rfl)]
          refine load_op (v) (bp) rfl rfl (H0.out.rp) ?_
          simp only [Act.put, List.setIfInBounds_toArray, List.set_cons_zero, List.set_cons_succ]
          refine hK.out _ _ trivial (fun _ => ?_)
          clear hK K
          refine step2 0 2 (by kernel_rfl) rfl rfl (fun K hK => ?_) (fun K hK => ?_)
          · skip
            rw [if_pos (by rfl)]
            refine load_op (v) (bp) rfl rfl (H0.out.rp) ?_
            simp only [Act.put, List.setIfInBounds_toArray, List.set_cons_zero, List.set_cons_succ]
            refine hK.out _ _ trivial (fun _ => ?_)
            clear hK K
            refine step1 2 (by kernel_rfl) rfl (fun K hK => ?_)
            rw [if_pos (by rfl)]
            go_simp
            refine Calls.mono (number_nat 0 (by decide) 0 rfl _) ?_
            rintro e w1 ⟨rfl, hg1⟩
            dsimp only
            have H1 := Hid.of (H0.out.grown hg1)
            clear hg1
            refine hK.out _ _ trivial (fun _ => ?_)
            clear hK K
            refine step1 3 (by kernel_rfl) rfl (fun K hK => ?_)
            rw [if_pos (by rfl)]
            go_simp
            refine Calls.mono (MulAdd_num (v) (v) 0 hvM hvM (by decide) _ (HT.out.grown H1.out.gw)) ?_
            rintro e w2 ⟨rfl, hg2⟩
            dsimp only
            have H2 := Hid.of (H1.out.grown hg2)
            clear hg2
            refine hK.out _ _ trivial (fun _ => ?_)
            clear hK K
            refine step1 4 (by kernel_rfl) rfl (fun K hK => ?_)
            refine store32 (smad v v 0) (bp) rfl (by rfl) rfl rfl H2.out.tp ?_
            simp only [Act.put]
            have H3 := Hid.of (H2.out.store (smad v v 0))
            refine hK.out _ _ trivial (fun _ => ?_)
            clear hK K
            refine wpAnyH_done (by kernel_rfl) ?_ _
            refine NoPanic.normal ?_
            go_wp2
            go_meet
            case rel => exact H3.out
          · skip
            rw [if_pos (by rfl)]
            go_simp
            refine Calls.mono (number_nat 0 (by decide) 0 rfl _) ?_
            rintro e w1 ⟨rfl, hg1⟩
            dsimp only
            have H1 := Hid.of (H0.out.grown hg1)
            clear hg1
            refine hK.out _ _ trivial (fun _ => ?_)
            clear hK K
            refine step1 0 (by kernel_rfl) rfl (fun K hK => ?_)
            rw [if_pos (by rfl)]
            refine load_op (v) (bp) rfl rfl (H1.out.rp) ?_
            simp only [Act.put, List.setIfInBounds_toArray, List.set_cons_zero, List.set_cons_succ]
            refine hK.out _ _ trivial (fun _ => ?_)
            clear hK K
            refine step1 3 (by kernel_rfl) rfl (fun K hK => ?_)
            rw [if_pos (by rfl)]
            go_simp
            refine Calls.mono (MulAdd_num (v) (v) 0 hvM hvM (by decide) _ (HT.out.grown H1.out.gw)) ?_
            rintro e w2 ⟨rfl, hg2⟩
            dsimp only
            have H2 := Hid.of (H1.out.grown hg2)
            clear hg2
            refine hK.out _ _ trivial (fun _ => ?_)
            clear hK K
            refine step1 4 (by kernel_rfl) rfl (fun K hK => ?_)
            refine store32 (smad v v 0) (bp) rfl (by rfl) rfl rfl H2.out.tp ?_
            simp only [Act.put]
            have H3 := Hid.of (H2.out.store (smad v v 0))
            refine hK.out _ _ trivial (fun _ => ?_)
            clear hK K
            refine wpAnyH_done (by kernel_rfl) ?_ _
            refine NoPanic.normal ?_
            go_wp2
            go_meet
            case rel => exact H3.out
        · skip
          rw [if_pos (by rfl)]
          go_simp
          refine Calls.mono (number_nat 0 (by decide) 0 rfl _) ?_
          rintro e w1 ⟨rfl, hg1⟩
          dsimp only
          have H1 := Hid.of (H0.out.grown hg1)
          clear hg1
          refine hK.out _ _ trivial (fun _ => ?_)
          clear hK K
          refine step2 0 1 (by kernel_rfl) rfl rfl (fun K hK => ?_) (fun K hK => ?_)
          · skip
            rw [if_pos (by rfl)]
            refine load_op (v) (bp) rfl rfl (H1.out.rp) ?_
            simp only [Act.put, List.setIfInBounds_toArray, List.set_cons_zero, List.set_cons_succ]
            refine hK.out _ _ trivial (fun _ => ?_)
            clear hK K
            refine step1 1 (by kernel_rfl) rfl (fun K hK => ?_)
            rw [if_pos (by rfl)]
            refine load_op (v) (bp) rfl rfl (H1.out.rp) ?_
            simp only [Act.put, List.setIfInBounds_toArray, List.set_cons_zero, List.set_cons_succ]
            refine hK.out _ _ trivial (fun _ => ?_)
            clear hK K
            refine step1 3 (by kernel_rfl) rfl (fun K hK => ?_)
            rw [if_pos (by rfl)]
            go_simp
            refine Calls.mono (MulAdd_num (v) (v) 0 hvM hvM (by decide) _ (HT.out.grown H1.out.gw)) ?_
            rintro e w2 ⟨rfl, hg2⟩
            dsimp only
            have H2 := Hid.of (H1.out.grown hg2)
            clear hg2
            refine hK.out _ _ trivial (fun _ => ?_)
            clear hK K
            refine step1 4 (by kernel_rfl) rfl (fun K hK => ?_)
            refine store32 (smad v v 0) (bp) rfl (by rfl) rfl rfl H2.out.tp ?_
            simp only [Act.put]
            have H3 := Hid.of (H2.out.store (smad v v 0))
            refine hK.out _ _ trivial (fun _ => ?_)
            clear hK K
            refine wpAnyH_done (by kernel_rfl) ?_ _
            refine NoPanic.normal ?_
            go_wp2
            go_meet
            case rel => exact H3.out
          · skip
            rw [if_pos (by rfl)]
            refine load_op (v) (bp) rfl rfl (H1.out.rp) ?_
            simp only [Act.put, List.setIfInBounds_toArray, List.set_cons_zero, List.set_cons_succ]
            refine hK.out _ _ trivial (fun _ => ?_)
            clear hK K
            refine step1 0 (by kernel_rfl) rfl (fun K hK => ?_)
            rw [if_pos (by rfl)]
            refine load_op (v) (bp) rfl rfl (H1.out.rp) ?_
            simp only [Act.put, List.setIfInBounds_toArray, List.set_cons_zero, List.set_cons_succ]
            refine hK.out _ _ trivial (fun _ => ?_)
            clear hK K
            refine step1 3 (by kernel_rfl) rfl (fun K hK => ?_)
            rw [if_pos (by rfl)]
            go_simp
            refine Calls.mono (MulAdd_num (v) (v) 0 hvM hvM (by decide) _ (HT.out.grown H1.out.gw)) ?_
            rintro e w2 ⟨rfl, hg2⟩
            dsimp only
            have H2 := Hid.of (H1.out.grown hg2)
            clear hg2
            refine hK.out _ _ trivial (fun _ => ?_)
            clear hK K
            refine step1 4 (by kernel_rfl) rfl (fun K hK => ?_)
            refine store32 (smad v v 0) (bp) rfl (by rfl) rfl rfl H2.out.tp ?_
            simp only [Act.put]
            have H3 := Hid.of (H2.out.store (smad v v 0))
            refine hK.out _ _ trivial (fun _ => ?_)
            clear hK K
            refine wpAnyH_done (by kernel_rfl) ?_ _
            refine NoPanic.normal ?_
            go_wp2
            go_meet
            case rel => exact H3.out
      case rest =>
        obtain ⟨z, hz⟩ : ∃ z, z = smad v v 0 := ⟨_, rfl⟩
        rw [← hz] at hcut
        have HZ := Hid.of (sq_pow HV.out (show z = (v * v + 0) % L from hz))
        have hzM : z < M := by rw [hz]; exact smad_lt _ _ _
        have HF2 := Hid.of hcut
        clear hcut hz HV HF hvM
        have d1 : wc.cell? ⟨be, i / 8, none⟩ = some (.int .u8 (dg 256 e (i / 8) : Nat)) := by
          have := HF2.out.re (i / 8) _ (yl_get 32 e (i / 8) (by omega)); rwa [Nat.zero_add] at this
        have hbb := bit_byte e i
        have hd8 : dg 256 e (i / 8) < 256 := dg_lt (by decide)
        generalize dg 256 e (i / 8) = bt at *
        have hq8 : bt / 2 ^ (i % 8) < 256 := Nat.lt_of_le_of_lt (Nat.div_le_self _ _) hd8
        have eq1 : (bt : Int) / 2 ^ (i % 8) = ((bt / 2 ^ (i % 8) : Nat) : Int) := by simp
        generalize bt / 2 ^ (i % 8) = q at *
        have eq2 := w64s q hq8
        have eq3 : (q : Int).tmod 2 = ((e / 2 ^ i % 2 : Nat) : Int) := by rw [← hbb]; exact tmod2 q
        have HB := Hid.of (bit_pow e i)
        clear hbb hq8 hd8
        have hbit : e / 2 ^ i % 2 = 0 ∨ e / 2 ^ i % 2 = 1 := by
          have := Nat.mod_lt (e / 2 ^ i) (show 0 < 2 by decide)
          generalize e / 2 ^ i % 2 = t at *
          clear HZ HB eq3
          omega
        generalize e / 2 ^ i % 2 = bit at *
        rcases hbit with rfl | rfl
        · go_wp2
          go_roundw
          case rel => exact ⟨i, z, rfl, by omega, by rw [HB.out, Nat.add_zero]; exact HZ.out, HF2.out⟩
          case measure => simp [intOf]
        · go_wp2
          clear eq1 eq2 eq3 d1
          refine wp_region_noPanic ?_
          refine wp_region_held_drew (S := fun _ => True) (by kernel_rfl) trivial (fun _ => ?_)
          have H0 := Hid.of (HF2.out.drew)
          clear HF2
          refine step3 0 1 2 (by kernel_rfl) rfl rfl rfl (fun K hK => ?_) (fun K hK => ?_) (fun K hK => ?_)
          · skip
            rw [if_pos (by rfl)]
            refine load_op (z) (bp) rfl rfl (H0.out.rp) ?_
            simp only [Act.put, List.setIfInBounds_toArray, List.set_cons_zero, List.set_cons_succ]
            refine hK.out _ _ trivial (fun _ => ?_)
            clear hK K
            refine step2 1 2 (by kernel_rfl) rfl rfl (fun K hK => ?_) (fun K hK => ?_)
            · skip
              rw [if_pos (by rfl)]
              refine load_op (a) (w.heap.size) rfl rfl (H0.out.ra) ?_
              simp only [Act.put, List.setIfInBounds_toArray, List.set_cons_zero, List.set_cons_succ]
              refine hK.out _ _ trivial (fun _ => ?_)
              clear hK K
              refine step1 2 (by kernel_rfl) rfl (fun K hK => ?_)
              rw [if_pos (by rfl)]
              go_simp
              refine Calls.mono (number_nat 0 (by decide) 0 rfl _) ?_
              rintro e w1 ⟨rfl, hg1⟩
              dsimp only
              have H1 := Hid.of (H0.out.grown hg1)
              clear hg1
              refine hK.out _ _ trivial (fun _ => ?_)
              clear hK K
              refine step1 3 (by kernel_rfl) rfl (fun K hK => ?_)
              rw [if_pos (by rfl)]
              go_simp
              refine Calls.mono (MulAdd_num (z) (a) 0 hzM haM (by decide) _ (HT.out.grown H1.out.gw)) ?_
              rintro e w2 ⟨rfl, hg2⟩
              dsimp only
              have H2 := Hid.of (H1.out.grown hg2)
              clear hg2
              refine hK.out _ _ trivial (fun _ => ?_)
              clear hK K
              refine step1 4 (by kernel_rfl) rfl (fun K hK => ?_)
              refine store32 (smad z a 0) (bp) rfl (by rfl) rfl rfl H2.out.tp ?_
              simp only [Act.put]
              have H3 := Hid.of (H2.out.store (smad z a 0))
              refine hK.out _ _ trivial (fun _ => ?_)
              clear hK K
              refine wpAnyH_done (by kernel_rfl) ?_ _
              refine NoPanic.normal ?_
              have HZ2 := Hid.of (mul_pow1 HZ.out (show smad z a 0 = (z * a + 0) % L from rfl))
              clear HZ H0
              go_wp2
              go_roundw
              case rel => exact ⟨i, smad z a 0, rfl, by omega, by rw [HB.out]; exact HZ2.out, H3.out⟩
              case measure => simp [intOf]
            · skip
              rw [if_pos (by rfl)]
              go_simp
              refine Calls.mono (number_nat 0 (by decide) 0 rfl _) ?_
              rintro e w1 ⟨rfl, hg1⟩
              dsimp only
              have H1 := Hid.of (H0.out.grown hg1)
              clear hg1
              refine hK.out _ _ trivial (fun _ => ?_)
              clear hK K
              refine step1 1 (by kernel_rfl) rfl (fun K hK => ?_)
              rw [if_pos (by rfl)]
              refine load_op (a) (w.heap.size) rfl rfl (H1.out.ra) ?_
              simp only [Act.put, List.setIfInBounds_toArray, List.set_cons_zero, List.set_cons_succ]
              refine hK.out _ _ trivial (fun _ => ?_)
              clear hK K
              refine step1 3 (by kernel_rfl) rfl (fun K hK => ?_)
              rw [if_pos (by rfl)]
              go_simp
              refine Calls.mono (MulAdd_num (z) (a) 0 hzM haM (by decide) _ (HT.out.grown H1.out.gw)) ?_
              rintro e w2 ⟨rfl, hg2⟩
              dsimp only
              have H2 := Hid.of (H1.out.grown hg2)
              clear hg2
              refine hK.out _ _ trivial (fun _ => ?_)
              clear hK K
              refine step1 4 (by kernel_rfl) rfl (fun K hK => ?_)
              refine store32 (smad z a 0) (bp) rfl (by rfl) rfl rfl H2.out.tp ?_
              simp only [Act.put]
              have H3 := Hid.of (H2.out.store (smad z a 0))
              refine hK.out _ _ trivial (fun _ => ?_)
              clear hK K
              refine wpAnyH_done (by kernel_rfl) ?_ _
              refine NoPanic.normal ?_
              have HZ2 := Hid.of (mul_pow1 HZ.out (show smad z a 0 = (z * a + 0) % L from rfl))
              clear HZ H0
              go_wp2
              go_roundw
              case rel => exact ⟨i, smad z a 0, rfl, by omega, by rw [HB.out]; exact HZ2.out, H3.out⟩
              case measure => simp [intOf]
          · skip
            rw [if_pos (by rfl)]
            refine load_op (a) (w.heap.size) rfl rfl (H0.out.ra) ?_
            simp only [Act.put, List.setIfInBounds_toArray, List.set_cons_zero, List.set_cons_succ]
            refine hK.out _ _ trivial (fun _ => ?_)
            clear hK K
            refine step2 0 2 (by kernel_rfl) rfl rfl (fun K hK => ?_) (fun K hK => ?_)
            · skip
              rw [if_pos (by rfl)]
              refine load_op (z) (bp) rfl rfl (H0.out.rp) ?_
              simp only [Act.put, List.setIfInBounds_toArray, List.set_cons_zero, List.set_cons_succ]
              refine hK.out _ _ trivial (fun _ => ?_)
              clear hK K
              refine step1 2 (by kernel_rfl) rfl (fun K hK => ?_)
              rw [if_pos (by rfl)]
              go_simp
              refine Calls.mono (number_nat 0 (by decide) 0 rfl _) ?_
              rintro e w1 ⟨rfl, hg1⟩
              dsimp only
              have H1 := Hid.of (H0.out.grown hg1)
              clear hg1
              refine hK.out _ _ trivial (fun _ => ?_)
              clear hK K
              refine step1 3 (by kernel_rfl) rfl (fun K hK => ?_)
              rw [if_pos (by rfl)]
              go_simp
              refine Calls.mono (MulAdd_num (z) (a) 0 hzM haM (by decide) _ (HT.out.grown H1.out.gw)) ?_
              rintro e w2 ⟨rfl, hg2⟩
              dsimp only
              have H2 := Hid.of (H1.out.grown hg2)
              clear hg2
              refine hK.out _ _ trivial (fun _ => ?_)
              clear hK K
              refine step1 4 (by kernel_rfl) rfl (fun K hK => ?_)
              refine store32 (smad z a 0) (bp) rfl (by rfl) rfl rfl H2.out.tp ?_
              simp only [Act.put]
              have H3 := Hid.of (H2.out.store (smad z a 0))
              refine hK.out _ _ trivial (fun _ => ?_)
              clear hK K
              refine wpAnyH_done (by kernel_rfl) ?_ _
              refine NoPanic.normal ?_
              have HZ2 := Hid.of (mul_pow1 HZ.out (show smad z a 0 = (z * a + 0) % L from rfl))
              clear HZ H0
              go_wp2
              go_roundw
              case rel => exact ⟨i, smad z a 0, rfl, by omega, by rw [HB.out]; exact HZ2.out, H3.out⟩
              case measure => simp [intOf]
            · skip
              rw [if_pos (by rfl)]
              go_simp
              refine Calls.mono (number_nat 0 (by decide) 0 rfl _) ?_
              rintro e w1 ⟨rfl, hg1⟩
              dsimp only
              have H1 := Hid.of (H0.out.grown hg1)
              clear hg1
              refine hK.out _ _ trivial (fun _ => ?_)
              clear hK K
              refine step1 0 (by kernel_rfl) rfl (fun K hK => ?_)
              rw [if_pos (by rfl)]
              refine load_op (z) (bp) rfl rfl (H1.out.rp) ?_
              simp only [Act.put, List.setIfInBounds_toArray, List.set_cons_zero, List.set_cons_succ]
              refine hK.out _ _ trivial (fun _ => ?_)
              clear hK K
              refine step1 3 (by kernel_rfl) rfl (fun K hK => ?_)
              rw [if_pos (by rfl)]
              go_simp
              refine Calls.mono (MulAdd_num (z) (a) 0 hzM haM (by decide) _ (HT.out.grown H1.out.gw)) ?_
              rintro e w2 ⟨rfl, hg2⟩
              dsimp only
              have H2 := Hid.of (H1.out.grown hg2)
              clear hg2
              refine hK.out _ _ trivial (fun _ => ?_)
              clear hK K
              refine step1 4 (by kernel_rfl) rfl (fun K hK => ?_)
              refine store32 (smad z a 0) (bp) rfl (by rfl) rfl rfl H2.out.tp ?_
              simp only [Act.put]
              have H3 := Hid.of (H2.out.store (smad z a 0))
              refine hK.out _ _ trivial (fun _ => ?_)
              clear hK K
              refine wpAnyH_done (by kernel_rfl) ?_ _
              refine NoPanic.normal ?_
              have HZ2 := Hid.of (mul_pow1 HZ.out (show smad z a 0 = (z * a + 0) % L from rfl))
              clear HZ H0
              go_wp2
              go_roundw
              case rel => exact ⟨i, smad z a 0, rfl, by omega, by rw [HB.out]; exact HZ2.out, H3.out⟩
              case measure => simp [intOf]
          · skip
            rw [if_pos (by rfl)]
            go_simp
            refine Calls.mono (number_nat 0 (by decide) 0 rfl _) ?_
            rintro e w1 ⟨rfl, hg1⟩
            dsimp only
            have H1 := Hid.of (H0.out.grown hg1)
            clear hg1
            refine hK.out _ _ trivial (fun _ => ?_)
            clear hK K
            refine step2 0 1 (by kernel_rfl) rfl rfl (fun K hK => ?_) (fun K hK => ?_)
            · skip
              rw [if_pos (by rfl)]
              refine load_op (z) (bp) rfl rfl (H1.out.rp) ?_
              simp only [Act.put, List.setIfInBounds_toArray, List.set_cons_zero, List.set_cons_succ]
              refine hK.out _ _ trivial (fun _ => ?_)
              clear hK K
              refine step1 1 (by kernel_rfl) rfl (fun K hK => ?_)
              rw [if_pos (by rfl)]
              refine load_op (a) (w.heap.size) rfl rfl (H1.out.ra) ?_
              simp only [Act.put, List.setIfInBounds_toArray, List.set_cons_zero, List.set_cons_succ]
              refine hK.out _ _ trivial (fun _ => ?_)
              clear hK K
              refine step1 3 (by kernel_rfl) rfl (fun K hK => ?_)
              rw [if_pos (by rfl)]
              go_simp
              refine Calls.mono (MulAdd_num (z) (a) 0 hzM haM (by decide) _ (HT.out.grown H1.out.gw)) ?_
              rintro e w2 ⟨rfl, hg2⟩
              dsimp only
              have H2 := Hid.of (H1.out.grown hg2)
              clear hg2
              refine hK.out _ _ trivial (fun _ => ?_)
              clear hK K
              refine step1 4 (by kernel_rfl) rfl (fun K hK => ?_)
              refine store32 (smad z a 0) (bp) rfl (by rfl) rfl rfl H2.out.tp ?_
              simp only [Act.put]
              have H3 := Hid.of (H2.out.store (smad z a 0))
              refine hK.out _ _ trivial (fun _ => ?_)
              clear hK K
              refine wpAnyH_done (by kernel_rfl) ?_ _
              refine NoPanic.normal ?_
              have HZ2 := Hid.of (mul_pow1 HZ.out (show smad z a 0 = (z * a + 0) % L from rfl))
              clear HZ H0
              go_wp2
              go_roundw
              case rel => exact ⟨i, smad z a 0, rfl, by omega, by rw [HB.out]; exact HZ2.out, H3.out⟩
              case measure => simp [intOf]
            · skip
              rw [if_pos (by rfl)]
              refine load_op (a) (w.heap.size) rfl rfl (H1.out.ra) ?_
              simp only [Act.put, List.setIfInBounds_toArray, List.set_cons_zero, List.set_cons_succ]
              refine hK.out _ _ trivial (fun _ => ?_)
              clear hK K
              refine step1 0 (by kernel_rfl) rfl (fun K hK => ?_)
              rw [if_pos (by rfl)]
              refine load_op (z) (bp) rfl rfl (H1.out.rp) ?_
              simp only [Act.put, List.setIfInBounds_toArray, List.set_cons_zero, List.set_cons_succ]
              refine hK.out _ _ trivial (fun _ => ?_)
              clear hK K
              refine step1 3 (by kernel_rfl) rfl (fun K hK => ?_)
              rw [if_pos (by rfl)]
              go_simp
              refine Calls.mono (MulAdd_num (z) (a) 0 hzM haM (by decide) _ (HT.out.grown H1.out.gw)) ?_
              rintro e w2 ⟨rfl, hg2⟩
              dsimp only
              have H2 := Hid.of (H1.out.grown hg2)
              clear hg2
              refine hK.out _ _ trivial (fun _ => ?_)
              clear hK K
              refine step1 4 (by kernel_rfl) rfl (fun K hK => ?_)
              refine store32 (smad z a 0) (bp) rfl (by rfl) rfl rfl H2.out.tp ?_
              simp only [Act.put]
              have H3 := Hid.of (H2.out.store (smad z a 0))
              refine hK.out _ _ trivial (fun _ => ?_)
              clear hK K
              refine wpAnyH_done (by kernel_rfl) ?_ _
              refine NoPanic.normal ?_
              have HZ2 := Hid.of (mul_pow1 HZ.out (show smad z a 0 = (z * a + 0) % L from rfl))
              clear HZ H0
              go_wp2
              go_roundw
              case rel => exact ⟨i, smad z a 0, rfl, by omega, by rw [HB.out]; exact HZ2.out, H3.out⟩
              case measure => simp [intOf]
end Go.Proofs.YteijccjdejjbjaaDoor
