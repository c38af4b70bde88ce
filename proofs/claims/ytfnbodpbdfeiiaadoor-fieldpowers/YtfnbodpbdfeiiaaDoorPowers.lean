import Derived.Test.YtfnbodpbdfeiiaaDoorPws
namespace Go.Proofs.YtfnbodpbdfeiiaaDoor
open Go.RowKit Go.Shelf FieldNum

def xs (a e k : Nat) : Nat := a ^ (e % 2 ^ k) % p
def ss (a k : Nat) : Nat := a ^ (2 ^ k) % p
theorem xs_lt (a e k : Nat) : xs a e k < M := mod_lt256 _
theorem ss_lt (a k : Nat) : ss a k < M := mod_lt256 _
theorem one_mod : 1 % p = 1 := by decide +kernel
theorem xs_zero (a e : Nat) : xs a e 0 = 1 := by unfold xs; rw [Nat.pow_zero, Nat.mod_one, Nat.pow_zero, one_mod]
theorem ss_zero (a : Nat) : ss a 0 = fred a := by unfold ss fred; rw [Nat.pow_zero, Nat.pow_one]
theorem ss_step (a k : Nat) : fmul (ss a k) (ss a k) = ss a (k + 1) := by
  unfold fmul ss
  rw [← Nat.mul_mod, ← Nat.pow_add, Nat.pow_succ, Nat.mul_two]
theorem mod_succ (e k : Nat) : e % 2 ^ (k + 1) = e % 2 ^ k + 2 ^ k * (e / 2 ^ k % 2) := by rw [Nat.pow_succ, Nat.mod_mul]
theorem xs_one (a e k : Nat) (h : e / 2 ^ k % 2 = 1) : fmul (xs a e k) (ss a k) = xs a e (k + 1) := by
  unfold fmul xs ss
  rw [← Nat.mul_mod, ← Nat.pow_add, mod_succ, h, Nat.mul_one]
theorem xs_none (a e k : Nat) (h : e / 2 ^ k % 2 = 0) : xs a e (k + 1) = xs a e k := by
  unfold xs
  rw [mod_succ, h, Nat.mul_zero, Nat.add_zero]
theorem xs_top (a e : Nat) (he : e < M) : xs a e 256 = fpow a e := by
  unfold xs fpow
  have h : (2 : Nat) ^ 256 = M := by decide +kernel
  rw [h, Nat.mod_eq_of_lt he]
theorem fpow_zero (a : Nat) : fpow a 0 = 1 := by unfold fpow; rw [Nat.pow_zero, one_mod]
theorem fpow_one (a : Nat) : fpow a 1 = fred a := by unfold fpow fred; rw [Nat.pow_one]
theorem bit_eq (e k q s c : Nat) (hq : q = k / 8) (hs : s = k % 8) (hc : c = e / 256 ^ q % 256) : c / 2 ^ s % 2 = e / 2 ^ k % 2 := by
  have hk : k = 8 * q + s := by omega
  have e1 : e / 2 ^ k = e / 256 ^ q / 2 ^ s := by
    rw [hk, Nat.pow_add, Nat.pow_mul, Nat.div_div_eq_div_mul]
  rw [e1, hc]
  generalize e / 256 ^ q = y
  have h8 : s = 0 ∨ s = 1 ∨ s = 2 ∨ s = 3 ∨ s = 4 ∨ s = 5 ∨ s = 6 ∨ s = 7 := by omega
  rcases h8 with rfl | rfl | rfl | rfl | rfl | rfl | rfl | rfl <;> simp only [Nat.reducePow] <;> omega

/-- what the variables hold -/
structure FP (w0 : World) (bx bs a e xv sv : Nat) (wr : World) : Prop where
  ra : wr.rangeAt w0.heap.size 0 (bl a)
  re : wr.rangeAt (w0.heap.size + 1) 0 (bl e)
  rx : wr.rangeAt bx 0 (bl xv)
  rs : wr.rangeAt bs 0 (bl sv)
  tx : wr.there bx 0 32
  ts : wr.there bs 0 32
  l1 : w0.heap.size + 1 < bx
  l2 : bx < bs
  gw : Grown w0 wr
theorem FP.grown {w0 wr w' : World} {bx bs a e xv sv : Nat} (h : FP w0 bx bs a e xv sv wr) (hg : Grown wr w') : FP w0 bx bs a e xv sv w' :=
  ⟨rangeAt_grown h.ra hg, rangeAt_grown h.re hg, rangeAt_grown h.rx hg, rangeAt_grown h.rs hg, there_grown h.tx hg, there_grown h.ts hg, h.l1, h.l2, grown_trans h.gw hg⟩
theorem FP.storeX {w0 wr : World} {bx bs a e xv sv : Nat} (h : FP w0 bx bs a e xv sv wr) (n : Nat) : FP w0 bx bs a e n sv (wr.setCells bx 0 (bl n)) := by
  have l1 := h.l1
  have l2 := h.l2
  exact ⟨World.rangeAt_setCells_apart h.ra _ _ _ (.inl (by omega)), World.rangeAt_setCells_apart h.re _ _ _ (.inl (by omega)), World.rangeAt_setCells_same _ _ _ _ (by rw [bl_length]; exact h.tx), World.rangeAt_setCells_apart h.rs _ _ _ (.inl (by omega)),
    World.there_setCells h.tx _ _ _, World.there_setCells h.ts _ _ _, h.l1, h.l2, grown_setCells (by omega) _ _ h.gw⟩
theorem FP.storeS {w0 wr : World} {bx bs a e xv sv : Nat} (h : FP w0 bx bs a e xv sv wr) (n : Nat) : FP w0 bx bs a e xv n (wr.setCells bs 0 (bl n)) := by
  have l1 := h.l1
  have l2 := h.l2
  exact ⟨World.rangeAt_setCells_apart h.ra _ _ _ (.inl (by omega)), World.rangeAt_setCells_apart h.re _ _ _ (.inl (by omega)), World.rangeAt_setCells_apart h.rx _ _ _ (.inl (by omega)), World.rangeAt_setCells_same _ _ _ _ (by rw [bl_length]; exact h.ts),
    World.there_setCells h.tx _ _ _, World.there_setCells h.ts _ _ _, h.l1, h.l2, grown_setCells (by omega) _ _ h.gw⟩

set_option maxRecDepth 100000 in
set_option maxHeartbeats 4000000 in
theorem powers_walk (a ee : Nat) (ha : a < M) (he : ee < M) (w : World) (hO : w.rangeAt 0 0 (nl 1)) :
    Calls Tryd.prog 3 #[bv a, bv ee] w fun r w' => r = .returned (.bool true) ∧ Grown w w' := by
  rw [bv, bv]
  go_enter Tryd.func3, Tryd.ntmps3
  go_wp2_with fail
  obtain ⟨hE0, hW0⟩ := params2 w a ee
  generalize ((w.alloc (Obj.cells (bl a).toArray 22)).alloc (Obj.cells (bl ee).toArray 22)) = W0 at hE0 hW0 ⊢
  refine Calls.mono (number_nat 1 (by decide) 1 rfl _) ?_
  rintro r w1 ⟨rfl, hg1⟩
  dsimp only
  go_step
  have hE1 := hE0.grown hg1
  have hW1 := grown_trans hW0 hg1
  clear hE0 hW0 hg1
  go_wp2_with (with_reducible show wpList _ _ _ ({ dst := _, op := Op.store 22 _ _, type := _, pos := _, after := _, guard := _ } :: _) _ _; refine Shut.out ?_)
  show wpList _ _ _ _ _ _
  refine wpList_store_new 1 (by simp) rfl rfl rfl rfl (fun w2 hg2 hr2 ht2 => ?_)
  simp only [Act.put]
  have hE2 := hE1.grown hg2
  have hW2 := grown_trans hW1 hg2
  have hlt1 : w.heap.size + 1 < w1.heap.size := block_lt_of_cell (hE1 _ (.tail _ (.head _)) 0 _ (bl_get ee 0 (by decide)))
  have hlt2 : w1.heap.size < w2.heap.size := block_lt_of_cell (hr2 0 _ (bl_get 1 0 (by decide)))
  clear hE1 hW1 hg2
  apply wpList_nil
  repeat ((fail_if_success (with_reducible show Code.wp _ (Code.region _ _ _) _ _ _)); go_step)
  apply wp_region_lit
  refine wpList_load32 rfl _ rfl _ rfl a (hE2 _ (.head _)) ?_
  simp only [Act.put, List.setIfInBounds_toArray, List.set_cons_zero, List.set_cons_succ]
  go_wp2_with fail
  refine Calls.mono (Reduce_f a ha _) ?_
  rintro r w3 ⟨rfl, hg3⟩
  dsimp only
  go_step
  have hlt3 := hg3.2.2
  go_wp2_with (with_reducible show wpList _ _ _ ({ dst := _, op := Op.store 22 _ _, type := _, pos := _, after := _, guard := _ } :: _) _ _; refine Shut.out ?_)
  show wpList _ _ _ _ _ _
  refine wpList_store_new (fred a) (by simp) rfl rfl rfl rfl (fun w4 hg4 hr4 ht4 => ?_)
  simp only [Act.put]
  have hF0 : FP w w1.heap.size w3.heap.size a ee (xs a ee 0) (ss a 0) w4 := by
    rw [xs_zero, ss_zero]
    have hE4 := (hE2.grown hg3).grown hg4
    exact ⟨hE4 _ (.head _), hE4 _ (.tail _ (.head _)), rangeAt_grown (rangeAt_grown hr2 hg3) hg4, hr4, there_grown (there_grown ht2 hg3) hg4, ht4, by omega, by omega, grown_trans (grown_trans hW2 hg3) hg4⟩
  clear hE2 hW2 hg3 hg4 hr2 hr4 ht2 ht4 hlt1 hlt2 hlt3
  apply wpList_nil
  generalize w3.heap.size = bs at *
  generalize w1.heap.size = bx at *
  go_wp2
  go_loopw [7] (fun v7 wr => ∃ k : Nat, v7 = .int .i64 k ∧ k ≤ 256 ∧ FP w bx bs a ee (xs a ee k) (ss a k) wr) (fun v7 _ => (256 - intOf v7).toNat)
  case atStart => exact ⟨0, rfl, by decide, hF0⟩
  case round =>
    obtain ⟨k, rfl, hk, hF⟩ := hrel
    clear hF0
    by_cases hlt : k < 256
    · obtain ⟨q, hq⟩ : ∃ q : Nat, q = k / 8 := ⟨_, rfl⟩
      obtain ⟨s, hs⟩ : ∃ s : Nat, s = k % 8 := ⟨_, rfl⟩
      obtain ⟨c, hc⟩ : ∃ c : Nat, c = ee / 256 ^ q % 256 := ⟨_, rfl⟩
      have hc256 : c < 256 := by omega
      have hq32 : q < 32 := by omega
      have hs8 : s < 8 := by omega
      have hcc : ∀ wr : World, wr.rangeAt (w.heap.size + 1) 0 (bl ee) → wr.cell? ⟨w.heap.size + 1, q, none⟩ = some (.int .u8 (c : Int)) := by
        intro wr h
        have := h q _ (bl_get ee q (by omega))
        rw [Nat.zero_add, ← hc] at this
        exact this
      have hbitq := Hid.of (bit_eq ee k q s c hq hs hc)
      have hqq := Hid.of hq
      have hss := Hid.of hs
      clear hq hs hc
      have b0 : (0 : Int) ≤ (q : Int) := by omega
      have b1 : (q : Int) < 32 := by omega
      have k0 : (0 : Int) ≤ (k : Int) := by omega
      have k1 : (k : Int) < 256 := by omega
      have wk : IntKind.i64.wrap ((k : Int) + 1) = (k : Int) + 1 := by rw [IntKind.wrap_i64]; omega
      repeat ((fail_if_success (with_reducible show Code.wp _ (Code.region _ _ _) _ _ _)); go_step)
      apply wp_region_lit
      go_wp2_with (with_reducible show wpList _ _ _ ({ dst := _, op := Op.binOp BinOp.quo _ _ _ _, type := _, pos := _, after := _, guard := _ } :: _) _ _; refine Shut.out ?_)
      show wpList _ _ _ _ _ _
      refine wpList_val (.int .i64 q) rfl (by rw [hqq.out]; exact exec_quo8 rfl k (by omega) rfl rfl) ?_
      simp only [Act.put, List.setIfInBounds_toArray, List.set_cons_zero, List.set_cons_succ]
      refine wpList_val (.pointer (some ⟨w.heap.size + 1, q, none⟩)) rfl (by go_simp) ?_
      simp only [Act.put, List.setIfInBounds_toArray, List.set_cons_zero, List.set_cons_succ]
      refine wpList_val (.int .u8 c) rfl (by have hc1 := hcc _ hF.re; go_simp) ?_
      simp only [Act.put, List.setIfInBounds_toArray, List.set_cons_zero, List.set_cons_succ]
      refine wpList_val (.int .i64 k) rfl rfl ?_
      simp only [Act.put, List.setIfInBounds_toArray, List.set_cons_zero, List.set_cons_succ]
      refine wpList_val (.int .i64 s) rfl (by rw [hss.out]; exact exec_rem8I rfl k rfl rfl) ?_
      simp only [Act.put, List.setIfInBounds_toArray, List.set_cons_zero, List.set_cons_succ]
      refine wpList_val (.int .u64 s) rfl (exec_convU rfl s hs8 rfl) ?_
      simp only [Act.put, List.setIfInBounds_toArray, List.set_cons_zero, List.set_cons_succ]
      refine wpList_val (.int .u8 ((c / 2 ^ s : Nat) : Int)) rfl (exec_shr8u rfl c s hs8 rfl rfl) ?_
      simp only [Act.put, List.setIfInBounds_toArray, List.set_cons_zero, List.set_cons_succ]
      have hd256 : c / 2 ^ s < 256 := Nat.lt_of_le_of_lt (Nat.div_le_self _ _) hc256
      refine wpList_val (.int .i64 ((c / 2 ^ s : Nat) : Int)) rfl (exec_convI rfl (c / 2 ^ s) hd256 rfl) ?_
      simp only [Act.put, List.setIfInBounds_toArray, List.set_cons_zero, List.set_cons_succ]
      refine wpList_val (.int .i64 ((c / 2 ^ s % 2 : Nat) : Int)) rfl (exec_rem2I rfl (c / 2 ^ s) rfl rfl) ?_
      simp only [Act.put, List.setIfInBounds_toArray, List.set_cons_zero, List.set_cons_succ]
      by_cases hbit : c / 2 ^ s % 2 = 1
      · refine wpList_val (.bool true) rfl (exec_eqlI rfl ((c / 2 ^ s % 2 : Nat) : Int) 1 rfl rfl true (by rw [hbit]; rfl)) ?_
        simp only [Act.put, List.setIfInBounds_toArray, List.set_cons_zero, List.set_cons_succ]
        apply wpList_nil
        have hx1 := Hid.of (xs_one a ee k (hbitq.out.symm.trans hbit))
        clear hbit hbitq
        go_wp2_with (with_reducible show wpList _ _ _ ({ dst := _, op := Op.load 22 _, type := _, pos := _, after := _, guard := _ } :: _) _ _; refine Shut.out ?_)
        show wpList _ _ _ _ _ _
        refine wpList_load32 rfl _ rfl _ rfl (xs a ee k) hF.rx ?_
        simp only [Act.put, List.setIfInBounds_toArray, List.set_cons_zero, List.set_cons_succ]
        refine wpList_load32 rfl _ rfl _ rfl (ss a k) hF.rs ?_
        simp only [Act.put, List.setIfInBounds_toArray, List.set_cons_zero, List.set_cons_succ]
        go_wp2_with fail
        refine Calls.mono (Mul_f (xs a ee k) (ss a k) (xs_lt _ _ _) (ss_lt _ _) _) ?_
        rintro r u1 ⟨rfl, hg1⟩
        dsimp only
        go_step
        refine wpList_store_var rfl _ _ rfl bx (fmul (xs a ee k) (ss a k)) rfl rfl (hF.grown hg1).tx (fun u2 hu2 => ?_)
        simp only [Act.put]
        have hF2 := (hF.grown hg1).storeX (fmul (xs a ee k) (ss a k))
        rw [← hu2, hx1.out] at hF2
        clear hu2 hg1 hF
        apply wpList_nil
        go_wp2_with (with_reducible show wpList _ _ _ ({ dst := _, op := Op.load 22 _, type := _, pos := _, after := _, guard := _ } :: _) _ _; refine Shut.out ?_)
        show wpList _ _ _ _ _ _
        refine wpList_load32 rfl _ rfl _ rfl (ss a k) hF2.rs ?_
        simp only [Act.put, List.setIfInBounds_toArray, List.set_cons_zero, List.set_cons_succ]
        go_wp2_with fail
        refine Calls.mono (Square_f (ss a k) (ss_lt _ _) _) ?_
        rintro r u3 ⟨rfl, hg3⟩
        dsimp only
        go_step
        refine wpList_store_var rfl _ _ rfl bs (fmul (ss a k) (ss a k)) rfl rfl (hF2.grown hg3).ts (fun u4 hu4 => ?_)
        simp only [Act.put]
        have hF4 := (hF2.grown hg3).storeS (fmul (ss a k) (ss a k))
        rw [← hu4, ss_step] at hF4
        clear hu4 hg3 hF2 hcc
        apply wpList_nil
        go_wp2
        go_roundw
        case rel => exact ⟨k + 1, by go_num, by omega, hF4⟩
        case measure => simp [intOf]; omega
      · refine wpList_val (.bool false) rfl (exec_eqlI rfl ((c / 2 ^ s % 2 : Nat) : Int) 1 rfl rfl false (decide_eq_false (by omega))) ?_
        simp only [Act.put, List.setIfInBounds_toArray, List.set_cons_zero, List.set_cons_succ]
        apply wpList_nil
        have hx0 := xs_none a ee k (by have := hbitq.out; omega)
        rw [← hx0] at hF
        clear hbit hbitq hx0
        go_wp2_with (with_reducible show wpList _ _ _ ({ dst := _, op := Op.load 22 _, type := _, pos := _, after := _, guard := _ } :: _) _ _; refine Shut.out ?_)
        show wpList _ _ _ _ _ _
        refine wpList_load32 rfl _ rfl _ rfl (ss a k) hF.rs ?_
        simp only [Act.put, List.setIfInBounds_toArray, List.set_cons_zero, List.set_cons_succ]
        go_wp2_with fail
        refine Calls.mono (Square_f (ss a k) (ss_lt _ _) _) ?_
        rintro r u3 ⟨rfl, hg3⟩
        dsimp only
        go_step
        refine wpList_store_var rfl _ _ rfl bs (fmul (ss a k) (ss a k)) rfl rfl (hF.grown hg3).ts (fun u4 hu4 => ?_)
        simp only [Act.put]
        have hF4 := (hF.grown hg3).storeS (fmul (ss a k) (ss a k))
        rw [← hu4, ss_step] at hF4
        clear hu4 hg3 hF hcc
        apply wpList_nil
        go_wp2
        go_roundw
        case rel => exact ⟨k + 1, by go_num, by omega, hF4⟩
        case measure => simp [intOf]; omega
    · have h256 : k = 256 := by omega
      subst h256
      have hfin := Hid.of (xs_top a ee he)
      have hp0 := Hid.of (fpow_zero a)
      have hp1 := Hid.of (fpow_one a)
      generalize hX : xs a ee 256 = X at *
      have hXl : X < M := by rw [← hX]; exact xs_lt _ _ _
      generalize ss a 256 = Sx at *
      clear hX
      go_wp2
      refine wp_region_noPanic ?_
      refine wp_region_held_drew (S := FP w bx bs a ee X Sx) (by kernel_rfl) (hF.grown (Grown.drew (Grown.refl _))) (fun hH0 => ?_)
      clear hF
      refine take32 0 (a) (w.heap.size) rfl (by kernel_rfl) (by kernel_rfl) (by kernel_rfl) (fun _ _ _ h => h) (by rfl) rfl rfl (fun _ h => h.ra) hH0 ?_
      simp only [Act.put, List.setIfInBounds_toArray, List.set_cons_zero, List.set_cons_succ]
      refine step1 1 (by kernel_rfl) rfl (fun K hK => ?_)
      rw [if_pos (by rfl)]
      go_simp
      refine Calls.mono (number_nat 0 (by decide) 0 rfl _) ?_
      rintro r v1 ⟨rfl, hv1⟩
      dsimp only
      refine hK.out _ _ (hH0.grown hv1) (fun hH1 => ?_)
      clear hK K hH0 hv1
      refine step1 2 (by kernel_rfl) rfl (fun K hK => ?_)
      rw [if_pos (by rfl)]
      go_simp
      refine Calls.mono (Pow_f a 0 ha (by decide) _ (rangeAt_grown hO hH1.gw)) ?_
      rintro r v2 ⟨rfl, hv2⟩
      dsimp only
      refine hK.out _ _ (hH1.grown hv2) (fun hH2 => ?_)
      clear hK K hH1 hv2
      refine step1 3 (by kernel_rfl) rfl (fun K hK => ?_)
      rw [if_pos (by rfl)]
      go_simp
      refine Calls.mono (number_nat 1 (by decide) 1 rfl _) ?_
      rintro r v3 ⟨rfl, hv3⟩
      dsimp only
      refine hK.out _ _ (hH2.grown hv3) (fun hH3 => ?_)
      clear hK K hH2 hv3
      refine takeV 4 (.bool false) rfl (by kernel_rfl) (by kernel_rfl) (by kernel_rfl) (fun _ _ _ h => h) (by rfl) (fun w _ => exec_neq_same rfl (fpow a 0) 1 rfl rfl (fpow_lt _ _) (by decide) hp0.out w) hH3 ?_
      simp only [Act.put, List.setIfInBounds_toArray, List.set_cons_zero, List.set_cons_succ]
      refine takeV 5 (.bool false) rfl (by kernel_rfl) (by kernel_rfl) (by kernel_rfl) (fun _ _ _ h => h) (by rfl) (fun w _ => rfl) hH3 ?_
      simp only [Act.put, List.setIfInBounds_toArray, List.set_cons_zero, List.set_cons_succ]
      refine take32 6 (a) (w.heap.size) rfl (by kernel_rfl) (by kernel_rfl) (by kernel_rfl) (fun _ _ _ h => h) (by rfl) rfl rfl (fun _ h => h.ra) hH3 ?_
      simp only [Act.put, List.setIfInBounds_toArray, List.set_cons_zero, List.set_cons_succ]
      refine take32 9 (a) (w.heap.size) rfl (by kernel_rfl) (by kernel_rfl) (by kernel_rfl) (fun _ _ _ h => h) (by rfl) rfl rfl (fun _ h => h.ra) hH3 ?_
      simp only [Act.put, List.setIfInBounds_toArray, List.set_cons_zero, List.set_cons_succ]
      refine step1 7 (by kernel_rfl) rfl (fun K hK => ?_)
      rw [if_pos (by rfl)]
      go_simp
      refine Calls.mono (number_nat 1 (by decide) 1 rfl _) ?_
      rintro r v4 ⟨rfl, hv4⟩
      dsimp only
      refine hK.out _ _ (hH3.grown hv4) (fun hH4 => ?_)
      clear hK K hH3 hv4
      refine step1 8 (by kernel_rfl) rfl (fun K hK => ?_)
      rw [if_pos (by rfl)]
      go_simp
      refine Calls.mono (Pow_f a 1 ha (by decide) _ (rangeAt_grown hO hH4.gw)) ?_
      rintro r v5 ⟨rfl, hv5⟩
      dsimp only
      refine hK.out _ _ (hH4.grown hv5) (fun hH5 => ?_)
      clear hK K hH4 hv5
      refine step1 10 (by kernel_rfl) rfl (fun K hK => ?_)
      rw [if_pos (by rfl)]
      go_simp
      refine Calls.mono (Reduce_f a ha _) ?_
      rintro r v6 ⟨rfl, hv6⟩
      dsimp only
      refine hK.out _ _ (hH5.grown hv6) (fun hH6 => ?_)
      clear hK K hH5 hv6
      refine takeV 11 (.bool false) rfl (by kernel_rfl) (by kernel_rfl) (by kernel_rfl) (fun _ _ _ h => h) (by rfl) (fun w _ => exec_neq_same rfl (fpow a 1) (fred a) rfl rfl (fpow_lt _ _) (fred_lt _) hp1.out w) hH6 ?_
      simp only [Act.put, List.setIfInBounds_toArray, List.set_cons_zero, List.set_cons_succ]
      refine takeV 12 (.bool false) rfl (by kernel_rfl) (by kernel_rfl) (by kernel_rfl) (fun _ _ _ h => h) (by rfl) (fun w _ => rfl) hH6 ?_
      simp only [Act.put, List.setIfInBounds_toArray, List.set_cons_zero, List.set_cons_succ]
      refine wpAnyH_done (by kernel_rfl) ?_ _
      refine NoPanic.normal ?_
      repeat ((fail_if_success (with_reducible show Code.wp _ (Code.region _ _ _) _ _ _)); go_step)
      refine wp_region_noPanic ?_
      refine wp_region_held_drew (S := FP w bx bs a ee X Sx) (by kernel_rfl) (hH6.grown (Grown.drew (Grown.refl _))) (fun hH7 => ?_)
      clear hH6
      refine take32 0 (a) (w.heap.size) rfl (by kernel_rfl) (by kernel_rfl) (by kernel_rfl) (fun _ _ _ h => h) (by rfl) rfl rfl (fun _ h => h.ra) hH7 ?_
      simp only [Act.put, List.setIfInBounds_toArray, List.set_cons_zero, List.set_cons_succ]
      refine take32 1 (ee) (w.heap.size + 1) rfl (by kernel_rfl) (by kernel_rfl) (by kernel_rfl) (fun _ _ _ h => h) (by rfl) rfl rfl (fun _ h => h.re) hH7 ?_
      simp only [Act.put, List.setIfInBounds_toArray, List.set_cons_zero, List.set_cons_succ]
      refine take32 3 (X) (bx) rfl (by kernel_rfl) (by kernel_rfl) (by kernel_rfl) (fun _ _ _ h => h) (by rfl) rfl rfl (fun _ h => h.rx) hH7 ?_
      simp only [Act.put, List.setIfInBounds_toArray, List.set_cons_zero, List.set_cons_succ]
      refine step1 2 (by kernel_rfl) rfl (fun K hK => ?_)
      rw [if_pos (by rfl)]
      go_simp
      refine Calls.mono (Pow_f a ee ha he _ (rangeAt_grown hO hH7.gw)) ?_
      rintro r v8 ⟨rfl, hv8⟩
      dsimp only
      refine hK.out _ _ (hH7.grown hv8) (fun hH8 => ?_)
      clear hK K hH7 hv8
      refine takeV 4 (.bool true) rfl (by kernel_rfl) (by kernel_rfl) (by kernel_rfl) (fun _ _ _ h => h) (by rfl) (fun w _ => exec_eql_same rfl (fpow a ee) X rfl rfl (fpow_lt _ _) hXl hfin.out.symm w) hH8 ?_
      simp only [Act.put, List.setIfInBounds_toArray, List.set_cons_zero, List.set_cons_succ]
      refine takeV 5 (.bool true) rfl (by kernel_rfl) (by kernel_rfl) (by kernel_rfl) (fun _ _ _ h => h) (by rfl) (fun w _ => rfl) hH8 ?_
      simp only [Act.put, List.setIfInBounds_toArray, List.set_cons_zero, List.set_cons_succ]
      refine wpAnyH_done (by kernel_rfl) ?_ _
      refine NoPanic.normal ?_
      repeat go_step
      go_ret
      exact ⟨rfl, hH8.gw⟩
end Go.Proofs.YtfnbodpbdfeiiaaDoor
