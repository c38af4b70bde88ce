import Derived.Test.YtfnbodpbdfeiiaaDoorFer0
namespace Go.Proofs.YtfnbodpbdfeiiaaDoor
open Go.RowKit Go.Shelf FieldNum

set_option maxRecDepth 100000 in
set_option maxHeartbeats 8000000 in
theorem fermat_walk0 (a t pp ee ff hh : Nat) (ha : a < M) (hpp : Hid (pp = p)) (ht : Hid (t = 2)) (htM : t < M) (heeM : ee < M) (hffM : ff < M) (hhhM : hh < M)
    (hb0 : ∀ (wr : World) {b : Nat}, wr.rangeAt b 0 (bl pp) → wr.cell? ⟨b, 0, none⟩ = some (.int .u8 237))
    (hmE : ∀ {wr : World} {b : Nat}, wr.rangeAt b 0 (bl pp) → (wr.setCell ⟨b, 0, none⟩ (.int .u8 236)).rangeAt b 0 (bl ee))
    (hmF : ∀ {wr : World} {b : Nat}, wr.rangeAt b 0 (bl pp) → (wr.setCell ⟨b, 0, none⟩ (.int .u8 235)).rangeAt b 0 (bl ff))
    (hmH : ∀ {wr : World} {b : Nat}, wr.rangeAt b 0 (bl pp) → ((wr.setCell ⟨b, 0, none⟩ (.int .u8 246)).setCell ⟨b, 31, none⟩ (.int .u8 63)).rangeAt b 0 (bl hh))
    (h2e : Hid (fpow t ee = 1)) (hinv : Hid (fpow a ff = inv a)) (hl : Hid (leg a = 0)) (hr : Hid (fred a = 0)) (hx : Hid (fpow a ee = 0)) (hy : Hid (fpow a hh = 0)) (w : World) (hG : w.rangeAt 2 0 PW) (hO : w.rangeAt 0 0 (nl 1)) :
    Calls Tryd.prog 7 #[bv a] w fun e w' => e = .returned (.bool true) ∧ Grown w w' := by
  rw [bv]
  go_enter Tryd.func7, Tryd.ntmps7
  go_wp2_with fail
  obtain ⟨hE0, hW0⟩ := params1 w a
  generalize (w.alloc (Obj.cells (bl a).toArray 22)) = W0 at hE0 hW0 ⊢
  refine Calls.mono (number_nat 0 (by decide) 0 rfl _) ?_
  rintro e w0 ⟨rfl, hg0⟩
  dsimp only
  go_step
  have hE00 := hE0.grown hg0
  have hW00 := grown_trans hW0 hg0
  clear hE0 hW0 hg0
  go_wp2_with (with_reducible show wpList _ _ _ ({ dst := _, op := Op.store 22 _ _, type := _, pos := _, after := _, guard := _ } :: _) _ _; refine Shut.out ?_)
  show wpList _ _ _ _ _ _
  refine wpList_store_new (0) (by simp) rfl rfl rfl rfl (fun w1 hg1 hr1 _ => ?_)
  simp only [Act.put]
  have hE1 := (hE00.grown hg1).cons hr1
  have hW1 := grown_trans hW00 hg1
  clear hE00 hW00 hg1 hr1
  apply wpList_nil
  repeat ((fail_if_success (with_reducible show Code.wp _ (Code.region _ _ _) _ _ _)); go_step)
  apply wp_region_lit
  go_wp2_with fail
  refine Calls.mono (number_nat 1 (by decide) 1 rfl _) ?_
  rintro e w2 ⟨rfl, hg2⟩
  dsimp only
  go_step
  have hE2 := hE1.grown hg2
  have hW2 := grown_trans hW1 hg2
  clear hE1 hW1 hg2
  go_wp2_with (with_reducible show wpList _ _ _ ({ dst := _, op := Op.store 22 _ _, type := _, pos := _, after := _, guard := _ } :: _) _ _; refine Shut.out ?_)
  show wpList _ _ _ _ _ _
  refine wpList_store_new (1) (by simp) rfl rfl rfl rfl (fun w3 hg3 hr3 _ => ?_)
  simp only [Act.put]
  have hE3 := (hE2.grown hg3).cons hr3
  have hW3 := grown_trans hW2 hg3
  clear hE2 hW2 hg3 hr3
  apply wpList_nil
  repeat ((fail_if_success (with_reducible show Code.wp _ (Code.region _ _ _) _ _ _)); go_step)
  apply wp_region_lit
  go_wp2_with fail
  refine Calls.mono (prime_is pp hpp.out _) ?_
  rintro r wa4 ⟨rfl, hga⟩
  dsimp only
  go_step
  have hE4a := hE3.grown hga
  have hW4a := grown_trans hW3 hga
  clear hE3 hW3 hga
  go_wp2_with (with_reducible show wpList _ _ _ ({ dst := _, op := Op.store 22 _ _, type := _, pos := _, after := _, guard := _ } :: _) _ _; refine Shut.out ?_)
  show wpList _ _ _ _ _ _
  refine wpList_store_new pp (by simp) rfl rfl rfl rfl (fun wb4 hgb hrb htb => ?_)
  simp only [Act.put]
  apply wpList_nil
  repeat ((fail_if_success (with_reducible show Code.wp _ (Code.region _ _ _) _ _ _)); go_step)
  apply wp_region_lit
  refine wpList_val (.pointer (some ⟨wa4.heap.size, 0, none⟩)) rfl (by go_simp) ?_
  simp only [Act.put, List.setIfInBounds_toArray, List.set_cons_zero, List.set_cons_succ]
  refine wpList_val (.int .u8 237) rfl (by have hc1 := hb0 _ hrb; go_simp) ?_
  simp only [Act.put, List.setIfInBounds_toArray, List.set_cons_zero, List.set_cons_succ]
  refine wpList_val (.int .u8 236) rfl (by go_simp; try rfl) ?_
  simp only [Act.put, List.setIfInBounds_toArray, List.set_cons_zero, List.set_cons_succ]
  refine wpList_val (.pointer (some ⟨wa4.heap.size, 0, none⟩)) rfl (by go_simp) ?_
  simp only [Act.put, List.setIfInBounds_toArray, List.set_cons_zero, List.set_cons_succ]
  refine wpList_store8 rfl rfl (wa4.heap.size) 0 236 (by decide) rfl rfl htb (fun wc hwc => ?_)
  simp only [Act.put]
  have hrc : wc.rangeAt (wa4.heap.size) 0 (bl ee) := by rw [hwc]; exact hmE hrb
  have hgc : Grown wa4 wc := by rw [hwc]; exact Grown.setCell hgb (Nat.le_refl _) _
  clear hwc hgb hrb htb
  have hE4 := (hE4a.grown hgc).cons hrc
  have hW4 := grown_trans hW4a hgc
  clear hE4a hW4a hgc hrc
  apply wpList_nil
  repeat ((fail_if_success (with_reducible show Code.wp _ (Code.region _ _ _) _ _ _)); go_step)
  apply wp_region_lit
  go_wp2_with fail
  refine Calls.mono (prime_is pp hpp.out _) ?_
  rintro r wa5 ⟨rfl, hga⟩
  dsimp only
  go_step
  have hE5a := hE4.grown hga
  have hW5a := grown_trans hW4 hga
  clear hE4 hW4 hga
  go_wp2_with (with_reducible show wpList _ _ _ ({ dst := _, op := Op.store 22 _ _, type := _, pos := _, after := _, guard := _ } :: _) _ _; refine Shut.out ?_)
  show wpList _ _ _ _ _ _
  refine wpList_store_new pp (by simp) rfl rfl rfl rfl (fun wb5 hgb hrb htb => ?_)
  simp only [Act.put]
  apply wpList_nil
  repeat ((fail_if_success (with_reducible show Code.wp _ (Code.region _ _ _) _ _ _)); go_step)
  apply wp_region_lit
  refine wpList_val (.pointer (some ⟨wa5.heap.size, 0, none⟩)) rfl (by go_simp) ?_
  simp only [Act.put, List.setIfInBounds_toArray, List.set_cons_zero, List.set_cons_succ]
  refine wpList_val (.int .u8 237) rfl (by have hc1 := hb0 _ hrb; go_simp) ?_
  simp only [Act.put, List.setIfInBounds_toArray, List.set_cons_zero, List.set_cons_succ]
  refine wpList_val (.int .u8 235) rfl (by go_simp; try rfl) ?_
  simp only [Act.put, List.setIfInBounds_toArray, List.set_cons_zero, List.set_cons_succ]
  refine wpList_val (.pointer (some ⟨wa5.heap.size, 0, none⟩)) rfl (by go_simp) ?_
  simp only [Act.put, List.setIfInBounds_toArray, List.set_cons_zero, List.set_cons_succ]
  refine wpList_store8 rfl rfl (wa5.heap.size) 0 235 (by decide) rfl rfl htb (fun wc hwc => ?_)
  simp only [Act.put]
  have hrc : wc.rangeAt (wa5.heap.size) 0 (bl ff) := by rw [hwc]; exact hmF hrb
  have hgc : Grown wa5 wc := by rw [hwc]; exact Grown.setCell hgb (Nat.le_refl _) _
  clear hwc hgb hrb htb
  have hE5 := (hE5a.grown hgc).cons hrc
  have hW5 := grown_trans hW5a hgc
  clear hE5a hW5a hgc hrc
  apply wpList_nil
  repeat ((fail_if_success (with_reducible show Code.wp _ (Code.region _ _ _) _ _ _)); go_step)
  apply wp_region_lit
  go_wp2_with fail
  refine Calls.mono (prime_is pp hpp.out _) ?_
  rintro r wa6 ⟨rfl, hga⟩
  dsimp only
  go_step
  have hE6a := hE5.grown hga
  have hW6a := grown_trans hW5 hga
  clear hE5 hW5 hga
  go_wp2_with (with_reducible show wpList _ _ _ ({ dst := _, op := Op.store 22 _ _, type := _, pos := _, after := _, guard := _ } :: _) _ _; refine Shut.out ?_)
  show wpList _ _ _ _ _ _
  refine wpList_store_new pp (by simp) rfl rfl rfl rfl (fun wb6 hgb hrb htb => ?_)
  simp only [Act.put]
  apply wpList_nil
  repeat ((fail_if_success (with_reducible show Code.wp _ (Code.region _ _ _) _ _ _)); go_step)
  apply wp_region_lit
  refine wpList_val (.pointer (some ⟨wa6.heap.size, 0, none⟩)) rfl (by go_simp) ?_
  simp only [Act.put, List.setIfInBounds_toArray, List.set_cons_zero, List.set_cons_succ]
  refine wpList_store8 rfl rfl (wa6.heap.size) 0 246 (by decide) rfl rfl htb (fun wd hwd => ?_)
  simp only [Act.put]
  have htd : wd.there (wa6.heap.size) 0 32 := by rw [hwd]; exact there_setCell htb _ _
  apply wpList_nil
  repeat ((fail_if_success (with_reducible show Code.wp _ (Code.region _ _ _) _ _ _)); go_step)
  apply wp_region_lit
  refine wpList_val (.pointer (some ⟨wa6.heap.size, 31, none⟩)) rfl (by go_simp) ?_
  simp only [Act.put, List.setIfInBounds_toArray, List.set_cons_zero, List.set_cons_succ]
  refine wpList_store8 rfl rfl (wa6.heap.size) 31 63 (by decide) rfl rfl htd (fun wc hwc => ?_)
  simp only [Act.put]
  have hrc : wc.rangeAt (wa6.heap.size) 0 (bl hh) := by rw [hwc, hwd]; exact hmH hrb
  have hgc : Grown wa6 wc := by rw [hwc, hwd]; exact Grown.setCell (Grown.setCell hgb (Nat.le_refl _) _) (Nat.le_refl _) _
  clear hwc hwd hgb hrb htb htd
  have hE6 := (hE6a.grown hgc).cons hrc
  have hW6 := grown_trans hW6a hgc
  clear hE6a hW6a hgc hrc
  apply wpList_nil
  repeat ((fail_if_success (with_reducible show Code.wp _ (Code.region _ _ _) _ _ _)); go_step)
  apply wp_region_lit
  refine wpList_load32 rfl _ rfl _ rfl (a) (hE6 (w.heap.size, a) (.tail _ (.tail _ (.tail _ (.tail _ (.tail _ (.head _))))))) ?_
  simp only [Act.put, List.setIfInBounds_toArray, List.set_cons_zero, List.set_cons_succ]
  refine wpList_load32 rfl _ rfl _ rfl (ee) (hE6 (wa4.heap.size, ee) (.tail _ (.tail _ (.head _)))) ?_
  simp only [Act.put, List.setIfInBounds_toArray, List.set_cons_zero, List.set_cons_succ]
  go_wp2_with fail
  refine Calls.mono (Pow_f (a) (ee) ha heeM _ (rangeAt_grown hO hW6)) ?_
  rintro e w7 ⟨rfl, hg7⟩
  dsimp only
  go_step
  have hE7 := hE6.grown hg7
  have hW7 := grown_trans hW6 hg7
  clear hE6 hW6 hg7
  go_wp2_with (with_reducible show wpList _ _ _ ({ dst := _, op := Op.store 22 _ _, type := _, pos := _, after := _, guard := _ } :: _) _ _; refine Shut.out ?_)
  show wpList _ _ _ _ _ _
  refine wpList_store_new (fpow (a) (ee)) (by simp) rfl rfl rfl rfl (fun w8 hg8 hr8 _ => ?_)
  simp only [Act.put]
  have hE8 := (hE7.grown hg8).cons hr8
  have hW8 := grown_trans hW7 hg8
  clear hE7 hW7 hg8 hr8
  apply wpList_nil
  repeat ((fail_if_success (with_reducible show Code.wp _ (Code.region _ _ _) _ _ _)); go_step)
  apply wp_region_lit
  refine wpList_load32 rfl _ rfl _ rfl (a) (hE8 (w.heap.size, a) (.tail _ (.tail _ (.tail _ (.tail _ (.tail _ (.tail _ (.head _)))))))) ?_
  simp only [Act.put, List.setIfInBounds_toArray, List.set_cons_zero, List.set_cons_succ]
  refine wpList_load32 rfl _ rfl _ rfl (hh) (hE8 (wa6.heap.size, hh) (.tail _ (.head _))) ?_
  simp only [Act.put, List.setIfInBounds_toArray, List.set_cons_zero, List.set_cons_succ]
  go_wp2_with fail
  refine Calls.mono (Pow_f (a) (hh) ha hhhM _ (rangeAt_grown hO hW8)) ?_
  rintro e w9 ⟨rfl, hg9⟩
  dsimp only
  go_step
  have hE9 := hE8.grown hg9
  have hW9 := grown_trans hW8 hg9
  clear hE8 hW8 hg9
  go_wp2_with (with_reducible show wpList _ _ _ ({ dst := _, op := Op.store 22 _ _, type := _, pos := _, after := _, guard := _ } :: _) _ _; refine Shut.out ?_)
  show wpList _ _ _ _ _ _
  refine wpList_store_new (fpow (a) (hh)) (by simp) rfl rfl rfl rfl (fun w10 hg10 hr10 _ => ?_)
  simp only [Act.put]
  have hE10 := (hE9.grown hg10).cons hr10
  have hW10 := grown_trans hW9 hg10
  clear hE9 hW9 hg10 hr10
  apply wpList_nil
  repeat ((fail_if_success (with_reducible show Code.wp _ (Code.region _ _ _) _ _ _)); go_step)
  refine wp_region_noPanic ?_
  refine wp_region_held_drew (S := fun w' => Holds [(w9.heap.size, fpow (a) (hh)), (w7.heap.size, fpow (a) (ee)), (wa6.heap.size, hh), (wa5.heap.size, ff), (wa4.heap.size, ee), (w2.heap.size, 1), (w0.heap.size, 0), (w.heap.size, a)] w' ∧ Grown w w') (by kernel_rfl) ⟨hE10, hW10⟩ (fun hH11 => ?_)
  clear hE10 hW10
  refine take32 1 (ee) (wa4.heap.size) rfl (by kernel_rfl) (by kernel_rfl) (by kernel_rfl) (fun _ _ _ h => h) (by rfl) rfl rfl (fun _ h => h.1 (wa4.heap.size, ee) (.tail _ (.tail _ (.tail _ (.tail _ (.head _)))))) hH11 ?_
  simp only [Act.put, List.setIfInBounds_toArray, List.set_cons_zero, List.set_cons_succ]
  refine take32 3 (1) (w2.heap.size) rfl (by kernel_rfl) (by kernel_rfl) (by kernel_rfl) (fun _ _ _ h => h) (by rfl) rfl rfl (fun _ h => h.1 (w2.heap.size, 1) (.tail _ (.tail _ (.tail _ (.tail _ (.tail _ (.head _))))))) hH11 ?_
  simp only [Act.put, List.setIfInBounds_toArray, List.set_cons_zero, List.set_cons_succ]
  refine step1 0 (by kernel_rfl) rfl (fun K hK => ?_)
  rw [if_pos (by rfl)]
  go_simp
  refine Calls.mono (number_nat t (by rw [ht.out]; decide) 2 (by rw [ht.out]; rfl) _) ?_
  rintro e w12 ⟨rfl, hg12⟩
  dsimp only
  refine hK.out _ _ (keepE hH11 hg12) (fun hH12 => ?_)
  clear hK K
  clear hH11
  clear hg12
  refine step1 2 (by kernel_rfl) rfl (fun K hK => ?_)
  rw [if_pos (by rfl)]
  go_simp
  refine Calls.mono (Pow_f (t) (ee) htM heeM _ (rangeAt_grown hO hH12.2)) ?_
  rintro e w13 ⟨rfl, hg13⟩
  dsimp only
  refine hK.out _ _ (keepE hH12 hg13) (fun hH13 => ?_)
  clear hK K
  clear hH12
  clear hg13
  refine takeV 4 (.bool false) rfl (by kernel_rfl) (by kernel_rfl) (by kernel_rfl) (fun _ _ _ h => h) (by rfl) (fun w _ => exec_neq_same rfl (fpow (t) (ee)) (1) rfl rfl (fpow_lt _ _) (by decide) (h2e.out) w) hH13 ?_
  simp only [Act.put, List.setIfInBounds_toArray, List.set_cons_zero, List.set_cons_succ]
  refine takeV 5 (.bool false) rfl (by kernel_rfl) (by kernel_rfl) (by kernel_rfl) (fun _ _ _ h => h) (by rfl) (fun w _ => rfl) hH13 ?_
  simp only [Act.put, List.setIfInBounds_toArray, List.set_cons_zero, List.set_cons_succ]
  refine take32 6 (a) (w.heap.size) rfl (by kernel_rfl) (by kernel_rfl) (by kernel_rfl) (fun _ _ _ h => h) (by rfl) rfl rfl (fun _ h => h.1 (w.heap.size, a) (.tail _ (.tail _ (.tail _ (.tail _ (.tail _ (.tail _ (.tail _ (.head _))))))))) hH13 ?_
  simp only [Act.put, List.setIfInBounds_toArray, List.set_cons_zero, List.set_cons_succ]
  refine take32 7 (ff) (wa5.heap.size) rfl (by kernel_rfl) (by kernel_rfl) (by kernel_rfl) (fun _ _ _ h => h) (by rfl) rfl rfl (fun _ h => h.1 (wa5.heap.size, ff) (.tail _ (.tail _ (.tail _ (.head _))))) hH13 ?_
  simp only [Act.put, List.setIfInBounds_toArray, List.set_cons_zero, List.set_cons_succ]
  refine take32 9 (a) (w.heap.size) rfl (by kernel_rfl) (by kernel_rfl) (by kernel_rfl) (fun _ _ _ h => h) (by rfl) rfl rfl (fun _ h => h.1 (w.heap.size, a) (.tail _ (.tail _ (.tail _ (.tail _ (.tail _ (.tail _ (.tail _ (.head _))))))))) hH13 ?_
  simp only [Act.put, List.setIfInBounds_toArray, List.set_cons_zero, List.set_cons_succ]
  refine step1 8 (by kernel_rfl) rfl (fun K hK => ?_)
  rw [if_pos (by rfl)]
  go_simp
  refine Calls.mono (Pow_f (a) (ff) ha hffM _ (rangeAt_grown hO hH13.2)) ?_
  rintro e w14 ⟨rfl, hg14⟩
  dsimp only
  refine hK.out _ _ (keepE hH13 hg14) (fun hH14 => ?_)
  clear hK K
  clear hH13
  clear hg14
  refine step1 10 (by kernel_rfl) rfl (fun K hK => ?_)
  rw [if_pos (by rfl)]
  go_simp
  refine Calls.mono (Invert_any (a) ha _ (rangeAt_grown hG hH14.2)) ?_
  rintro e w15 ⟨rfl, hg15⟩
  dsimp only
  refine hK.out _ _ (keepE hH14 hg15) (fun hH15 => ?_)
  clear hK K
  clear hH14
  clear hg15
  refine takeV 11 (.bool false) rfl (by kernel_rfl) (by kernel_rfl) (by kernel_rfl) (fun _ _ _ h => h) (by rfl) (fun w _ => exec_neq_same rfl (fpow (a) (ff)) (inv (a)) rfl rfl (fpow_lt _ _) (finv_lt _) (hinv.out) w) hH15 ?_
  simp only [Act.put, List.setIfInBounds_toArray, List.set_cons_zero, List.set_cons_succ]
  refine takeV 12 (.bool false) rfl (by kernel_rfl) (by kernel_rfl) (by kernel_rfl) (fun _ _ _ h => h) (by rfl) (fun w _ => rfl) hH15 ?_
  simp only [Act.put, List.setIfInBounds_toArray, List.set_cons_zero, List.set_cons_succ]
  refine wpAnyH_done (by kernel_rfl) ?_ _
  refine NoPanic.normal ?_
  obtain ⟨hE16, hW16⟩ := hH15
  repeat ((fail_if_success (with_reducible show Code.wp _ (Code.region _ _ _) _ _ _)); go_step)
  apply wp_region_lit
  refine wpList_load32 rfl _ rfl _ rfl (a) (hE16 (w.heap.size, a) (.tail _ (.tail _ (.tail _ (.tail _ (.tail _ (.tail _ (.tail _ (.head _))))))))) ?_
  simp only [Act.put, List.setIfInBounds_toArray, List.set_cons_zero, List.set_cons_succ]
  go_wp2_with fail
  refine Calls.mono (Legendre_any (a) ha _ (rangeAt_grown hG hW16) (rangeAt_grown hO hW16)) ?_
  rintro e w17 ⟨rfl, hg17⟩
  dsimp only
  go_step
  have hE17 := hE16.grown hg17
  have hW17 := grown_trans hW16 hg17
  clear hE16 hW16 hg17
  apply wpList_nil
  repeat ((fail_if_success (with_reducible show Code.wp _ (Code.region _ _ _) _ _ _)); go_step)
  apply wp_region_lit
  refine wpList_val (.bool true) rfl (exec_eqlI rfl (leg (a)) (0) rfl rfl true (decide_eq_true hl.out)) ?_
  simp only [Act.put, List.setIfInBounds_toArray, List.set_cons_zero, List.set_cons_succ]
  refine wpList_val (.bool true) rfl rfl ?_
  simp only [Act.put, List.setIfInBounds_toArray, List.set_cons_zero, List.set_cons_succ]
  apply wpList_nil
  repeat ((fail_if_success (with_reducible show Code.wp _ (Code.region _ _ _) _ _ _)); go_step)
  refine wp_region_noPanic ?_
  refine wp_region_held_drew (S := fun w' => Holds [(w9.heap.size, fpow (a) (hh)), (w7.heap.size, fpow (a) (ee)), (wa6.heap.size, hh), (wa5.heap.size, ff), (wa4.heap.size, ee), (w2.heap.size, 1), (w0.heap.size, 0), (w.heap.size, a)] w' ∧ Grown w w') (by kernel_rfl) ⟨hE17, hW17⟩ (fun hH18 => ?_)
  clear hE17 hW17
  refine take32 0 (a) (w.heap.size) rfl (by kernel_rfl) (by kernel_rfl) (by kernel_rfl) (fun _ _ _ h => h) (by rfl) rfl rfl (fun _ h => h.1 (w.heap.size, a) (.tail _ (.tail _ (.tail _ (.tail _ (.tail _ (.tail _ (.tail _ (.head _))))))))) hH18 ?_
  simp only [Act.put, List.setIfInBounds_toArray, List.set_cons_zero, List.set_cons_succ]
  refine take32 2 (0) (w0.heap.size) rfl (by kernel_rfl) (by kernel_rfl) (by kernel_rfl) (fun _ _ _ h => h) (by rfl) rfl rfl (fun _ h => h.1 (w0.heap.size, 0) (.tail _ (.tail _ (.tail _ (.tail _ (.tail _ (.tail _ (.head _)))))))) hH18 ?_
  simp only [Act.put, List.setIfInBounds_toArray, List.set_cons_zero, List.set_cons_succ]
  refine step1 1 (by kernel_rfl) rfl (fun K hK => ?_)
  rw [if_pos (by rfl)]
  go_simp
  refine Calls.mono (Reduce_f (a) ha _) ?_
  rintro e w19 ⟨rfl, hg19⟩
  dsimp only
  refine hK.out _ _ (keepE hH18 hg19) (fun hH19 => ?_)
  clear hK K
  clear hH18
  clear hg19
  refine takeV 3 (.bool true) rfl (by kernel_rfl) (by kernel_rfl) (by kernel_rfl) (fun _ _ _ h => h) (by rfl) (fun w _ => exec_eql_same rfl (fred (a)) (0) rfl rfl (fred_lt _) (by decide) (hr.out) w) hH19 ?_
  simp only [Act.put, List.setIfInBounds_toArray, List.set_cons_zero, List.set_cons_succ]
  refine takeV 4 (.bool true) rfl (by kernel_rfl) (by kernel_rfl) (by kernel_rfl) (fun _ _ _ h => h) (by rfl) (fun w _ => rfl) hH19 ?_
  simp only [Act.put, List.setIfInBounds_toArray, List.set_cons_zero, List.set_cons_succ]
  refine take32 5 (fpow (a) (ee)) (w7.heap.size) rfl (by kernel_rfl) (by kernel_rfl) (by kernel_rfl) (fun _ _ _ h => h) (by rfl) rfl rfl (fun _ h => h.1 (w7.heap.size, fpow (a) (ee)) (.tail _ (.head _))) hH19 ?_
  simp only [Act.put, List.setIfInBounds_toArray, List.set_cons_zero, List.set_cons_succ]
  refine take32 6 (0) (w0.heap.size) rfl (by kernel_rfl) (by kernel_rfl) (by kernel_rfl) (fun _ _ _ h => h) (by rfl) rfl rfl (fun _ h => h.1 (w0.heap.size, 0) (.tail _ (.tail _ (.tail _ (.tail _ (.tail _ (.tail _ (.head _)))))))) hH19 ?_
  simp only [Act.put, List.setIfInBounds_toArray, List.set_cons_zero, List.set_cons_succ]
  refine takeV 7 (.bool true) rfl (by kernel_rfl) (by kernel_rfl) (by kernel_rfl) (fun _ _ _ h => h) (by rfl) (fun w _ => exec_eql_same rfl (fpow (a) (ee)) (0) rfl rfl (fpow_lt _ _) (by decide) (hx.out) w) hH19 ?_
  simp only [Act.put, List.setIfInBounds_toArray, List.set_cons_zero, List.set_cons_succ]
  refine takeV 8 (.bool true) rfl (by kernel_rfl) (by kernel_rfl) (by kernel_rfl) (fun _ _ _ h => h) (by rfl) (fun w _ => rfl) hH19 ?_
  simp only [Act.put, List.setIfInBounds_toArray, List.set_cons_zero, List.set_cons_succ]
  refine takeV 9 (.bool true) rfl (by kernel_rfl) (by kernel_rfl) (by kernel_rfl) (fun _ _ _ h => h) (by rfl) (fun w _ => rfl) hH19 ?_
  simp only [Act.put, List.setIfInBounds_toArray, List.set_cons_zero, List.set_cons_succ]
  refine take32 10 (fpow (a) (hh)) (w9.heap.size) rfl (by kernel_rfl) (by kernel_rfl) (by kernel_rfl) (fun _ _ _ h => h) (by rfl) rfl rfl (fun _ h => h.1 (w9.heap.size, fpow (a) (hh)) (.head _)) hH19 ?_
  simp only [Act.put, List.setIfInBounds_toArray, List.set_cons_zero, List.set_cons_succ]
  refine take32 11 (0) (w0.heap.size) rfl (by kernel_rfl) (by kernel_rfl) (by kernel_rfl) (fun _ _ _ h => h) (by rfl) rfl rfl (fun _ h => h.1 (w0.heap.size, 0) (.tail _ (.tail _ (.tail _ (.tail _ (.tail _ (.tail _ (.head _)))))))) hH19 ?_
  simp only [Act.put, List.setIfInBounds_toArray, List.set_cons_zero, List.set_cons_succ]
  refine takeV 12 (.bool true) rfl (by kernel_rfl) (by kernel_rfl) (by kernel_rfl) (fun _ _ _ h => h) (by rfl) (fun w _ => exec_eql_same rfl (fpow (a) (hh)) (0) rfl rfl (fpow_lt _ _) (by decide) (hy.out) w) hH19 ?_
  simp only [Act.put, List.setIfInBounds_toArray, List.set_cons_zero, List.set_cons_succ]
  refine takeV 13 (.bool true) rfl (by kernel_rfl) (by kernel_rfl) (by kernel_rfl) (fun _ _ _ h => h) (by rfl) (fun w _ => rfl) hH19 ?_
  simp only [Act.put, List.setIfInBounds_toArray, List.set_cons_zero, List.set_cons_succ]
  refine takeV 14 (.bool true) rfl (by kernel_rfl) (by kernel_rfl) (by kernel_rfl) (fun _ _ _ h => h) (by rfl) (fun w _ => rfl) hH19 ?_
  simp only [Act.put, List.setIfInBounds_toArray, List.set_cons_zero, List.set_cons_succ]
  refine wpAnyH_done (by kernel_rfl) ?_ _
  refine NoPanic.normal ?_
  obtain ⟨hE20, hW20⟩ := hH19
  repeat go_step
  go_ret
  exact ⟨rfl, by first | assumption | exact hW20⟩

set_option maxRecDepth 100000 in
set_option maxHeartbeats 8000000 in
theorem fermat_walk1 (a t pp ee ff hh : Nat) (ha : a < M) (hpp : Hid (pp = p)) (ht : Hid (t = 2)) (htM : t < M) (heeM : ee < M) (hffM : ff < M) (hhhM : hh < M)
    (hb0 : ∀ (wr : World) {b : Nat}, wr.rangeAt b 0 (bl pp) → wr.cell? ⟨b, 0, none⟩ = some (.int .u8 237))
    (hmE : ∀ {wr : World} {b : Nat}, wr.rangeAt b 0 (bl pp) → (wr.setCell ⟨b, 0, none⟩ (.int .u8 236)).rangeAt b 0 (bl ee))
    (hmF : ∀ {wr : World} {b : Nat}, wr.rangeAt b 0 (bl pp) → (wr.setCell ⟨b, 0, none⟩ (.int .u8 235)).rangeAt b 0 (bl ff))
    (hmH : ∀ {wr : World} {b : Nat}, wr.rangeAt b 0 (bl pp) → ((wr.setCell ⟨b, 0, none⟩ (.int .u8 246)).setCell ⟨b, 31, none⟩ (.int .u8 63)).rangeAt b 0 (bl hh))
    (h2e : Hid (fpow t ee = 1)) (hinv : Hid (fpow a ff = inv a)) (hl0 : Hid (¬ leg a = 0)) (hl : Hid (leg a = 1)) (hx : Hid (fpow a ee = 1)) (hy : Hid (fpow a hh = 1)) (w : World) (hG : w.rangeAt 2 0 PW) (hO : w.rangeAt 0 0 (nl 1)) :
    Calls Tryd.prog 7 #[bv a] w fun e w' => e = .returned (.bool true) ∧ Grown w w' := by
  rw [bv]
  go_enter Tryd.func7, Tryd.ntmps7
  go_wp2_with fail
  obtain ⟨hE0, hW0⟩ := params1 w a
  generalize (w.alloc (Obj.cells (bl a).toArray 22)) = W0 at hE0 hW0 ⊢
  refine Calls.mono (number_nat 0 (by decide) 0 rfl _) ?_
  rintro e w0 ⟨rfl, hg0⟩
  dsimp only
  go_step
  have hE00 := hE0.grown hg0
  have hW00 := grown_trans hW0 hg0
  clear hE0 hW0 hg0
  go_wp2_with (with_reducible show wpList _ _ _ ({ dst := _, op := Op.store 22 _ _, type := _, pos := _, after := _, guard := _ } :: _) _ _; refine Shut.out ?_)
  show wpList _ _ _ _ _ _
  refine wpList_store_new (0) (by simp) rfl rfl rfl rfl (fun w1 hg1 hr1 _ => ?_)
  simp only [Act.put]
  have hE1 := (hE00.grown hg1).cons hr1
  have hW1 := grown_trans hW00 hg1
  clear hE00 hW00 hg1 hr1
  apply wpList_nil
  repeat ((fail_if_success (with_reducible show Code.wp _ (Code.region _ _ _) _ _ _)); go_step)
  apply wp_region_lit
  go_wp2_with fail
  refine Calls.mono (number_nat 1 (by decide) 1 rfl _) ?_
  rintro e w2 ⟨rfl, hg2⟩
  dsimp only
  go_step
  have hE2 := hE1.grown hg2
  have hW2 := grown_trans hW1 hg2
  clear hE1 hW1 hg2
  go_wp2_with (with_reducible show wpList _ _ _ ({ dst := _, op := Op.store 22 _ _, type := _, pos := _, after := _, guard := _ } :: _) _ _; refine Shut.out ?_)
  show wpList _ _ _ _ _ _
  refine wpList_store_new (1) (by simp) rfl rfl rfl rfl (fun w3 hg3 hr3 _ => ?_)
  simp only [Act.put]
  have hE3 := (hE2.grown hg3).cons hr3
  have hW3 := grown_trans hW2 hg3
  clear hE2 hW2 hg3 hr3
  apply wpList_nil
  repeat ((fail_if_success (with_reducible show Code.wp _ (Code.region _ _ _) _ _ _)); go_step)
  apply wp_region_lit
  go_wp2_with fail
  refine Calls.mono (prime_is pp hpp.out _) ?_
  rintro r wa4 ⟨rfl, hga⟩
  dsimp only
  go_step
  have hE4a := hE3.grown hga
  have hW4a := grown_trans hW3 hga
  clear hE3 hW3 hga
  go_wp2_with (with_reducible show wpList _ _ _ ({ dst := _, op := Op.store 22 _ _, type := _, pos := _, after := _, guard := _ } :: _) _ _; refine Shut.out ?_)
  show wpList _ _ _ _ _ _
  refine wpList_store_new pp (by simp) rfl rfl rfl rfl (fun wb4 hgb hrb htb => ?_)
  simp only [Act.put]
  apply wpList_nil
  repeat ((fail_if_success (with_reducible show Code.wp _ (Code.region _ _ _) _ _ _)); go_step)
  apply wp_region_lit
  refine wpList_val (.pointer (some ⟨wa4.heap.size, 0, none⟩)) rfl (by go_simp) ?_
  simp only [Act.put, List.setIfInBounds_toArray, List.set_cons_zero, List.set_cons_succ]
  refine wpList_val (.int .u8 237) rfl (by have hc1 := hb0 _ hrb; go_simp) ?_
  simp only [Act.put, List.setIfInBounds_toArray, List.set_cons_zero, List.set_cons_succ]
  refine wpList_val (.int .u8 236) rfl (by go_simp; try rfl) ?_
  simp only [Act.put, List.setIfInBounds_toArray, List.set_cons_zero, List.set_cons_succ]
  refine wpList_val (.pointer (some ⟨wa4.heap.size, 0, none⟩)) rfl (by go_simp) ?_
  simp only [Act.put, List.setIfInBounds_toArray, List.set_cons_zero, List.set_cons_succ]
  refine wpList_store8 rfl rfl (wa4.heap.size) 0 236 (by decide) rfl rfl htb (fun wc hwc => ?_)
  simp only [Act.put]
  have hrc : wc.rangeAt (wa4.heap.size) 0 (bl ee) := by rw [hwc]; exact hmE hrb
  have hgc : Grown wa4 wc := by rw [hwc]; exact Grown.setCell hgb (Nat.le_refl _) _
  clear hwc hgb hrb htb
  have hE4 := (hE4a.grown hgc).cons hrc
  have hW4 := grown_trans hW4a hgc
  clear hE4a hW4a hgc hrc
  apply wpList_nil
  repeat ((fail_if_success (with_reducible show Code.wp _ (Code.region _ _ _) _ _ _)); go_step)
  apply wp_region_lit
  go_wp2_with fail
  refine Calls.mono (prime_is pp hpp.out _) ?_
  rintro r wa5 ⟨rfl, hga⟩
  dsimp only
  go_step
  have hE5a := hE4.grown hga
  have hW5a := grown_trans hW4 hga
  clear hE4 hW4 hga
  go_wp2_with (with_reducible show wpList _ _ _ ({ dst := _, op := Op.store 22 _ _, type := _, pos := _, after := _, guard := _ } :: _) _ _; refine Shut.out ?_)
  show wpList _ _ _ _ _ _
  refine wpList_store_new pp (by simp) rfl rfl rfl rfl (fun wb5 hgb hrb htb => ?_)
  simp only [Act.put]
  apply wpList_nil
  repeat ((fail_if_success (with_reducible show Code.wp _ (Code.region _ _ _) _ _ _)); go_step)
  apply wp_region_lit
  refine wpList_val (.pointer (some ⟨wa5.heap.size, 0, none⟩)) rfl (by go_simp) ?_
  simp only [Act.put, List.setIfInBounds_toArray, List.set_cons_zero, List.set_cons_succ]
  refine wpList_val (.int .u8 237) rfl (by have hc1 := hb0 _ hrb; go_simp) ?_
  simp only [Act.put, List.setIfInBounds_toArray, List.set_cons_zero, List.set_cons_succ]
  refine wpList_val (.int .u8 235) rfl (by go_simp; try rfl) ?_
  simp only [Act.put, List.setIfInBounds_toArray, List.set_cons_zero, List.set_cons_succ]
  refine wpList_val (.pointer (some ⟨wa5.heap.size, 0, none⟩)) rfl (by go_simp) ?_
  simp only [Act.put, List.setIfInBounds_toArray, List.set_cons_zero, List.set_cons_succ]
  refine wpList_store8 rfl rfl (wa5.heap.size) 0 235 (by decide) rfl rfl htb (fun wc hwc => ?_)
  simp only [Act.put]
  have hrc : wc.rangeAt (wa5.heap.size) 0 (bl ff) := by rw [hwc]; exact hmF hrb
  have hgc : Grown wa5 wc := by rw [hwc]; exact Grown.setCell hgb (Nat.le_refl _) _
  clear hwc hgb hrb htb
  have hE5 := (hE5a.grown hgc).cons hrc
  have hW5 := grown_trans hW5a hgc
  clear hE5a hW5a hgc hrc
  apply wpList_nil
  repeat ((fail_if_success (with_reducible show Code.wp _ (Code.region _ _ _) _ _ _)); go_step)
  apply wp_region_lit
  go_wp2_with fail
  refine Calls.mono (prime_is pp hpp.out _) ?_
  rintro r wa6 ⟨rfl, hga⟩
  dsimp only
  go_step
  have hE6a := hE5.grown hga
  have hW6a := grown_trans hW5 hga
  clear hE5 hW5 hga
  go_wp2_with (with_reducible show wpList _ _ _ ({ dst := _, op := Op.store 22 _ _, type := _, pos := _, after := _, guard := _ } :: _) _ _; refine Shut.out ?_)
  show wpList _ _ _ _ _ _
  refine wpList_store_new pp (by simp) rfl rfl rfl rfl (fun wb6 hgb hrb htb => ?_)
  simp only [Act.put]
  apply wpList_nil
  repeat ((fail_if_success (with_reducible show Code.wp _ (Code.region _ _ _) _ _ _)); go_step)
  apply wp_region_lit
  refine wpList_val (.pointer (some ⟨wa6.heap.size, 0, none⟩)) rfl (by go_simp) ?_
  simp only [Act.put, List.setIfInBounds_toArray, List.set_cons_zero, List.set_cons_succ]
  refine wpList_store8 rfl rfl (wa6.heap.size) 0 246 (by decide) rfl rfl htb (fun wd hwd => ?_)
  simp only [Act.put]
  have htd : wd.there (wa6.heap.size) 0 32 := by rw [hwd]; exact there_setCell htb _ _
  apply wpList_nil
  repeat ((fail_if_success (with_reducible show Code.wp _ (Code.region _ _ _) _ _ _)); go_step)
  apply wp_region_lit
  refine wpList_val (.pointer (some ⟨wa6.heap.size, 31, none⟩)) rfl (by go_simp) ?_
  simp only [Act.put, List.setIfInBounds_toArray, List.set_cons_zero, List.set_cons_succ]
  refine wpList_store8 rfl rfl (wa6.heap.size) 31 63 (by decide) rfl rfl htd (fun wc hwc => ?_)
  simp only [Act.put]
  have hrc : wc.rangeAt (wa6.heap.size) 0 (bl hh) := by rw [hwc, hwd]; exact hmH hrb
  have hgc : Grown wa6 wc := by rw [hwc, hwd]; exact Grown.setCell (Grown.setCell hgb (Nat.le_refl _) _) (Nat.le_refl _) _
  clear hwc hwd hgb hrb htb htd
  have hE6 := (hE6a.grown hgc).cons hrc
  have hW6 := grown_trans hW6a hgc
  clear hE6a hW6a hgc hrc
  apply wpList_nil
  repeat ((fail_if_success (with_reducible show Code.wp _ (Code.region _ _ _) _ _ _)); go_step)
  apply wp_region_lit
  refine wpList_load32 rfl _ rfl _ rfl (a) (hE6 (w.heap.size, a) (.tail _ (.tail _ (.tail _ (.tail _ (.tail _ (.head _))))))) ?_
  simp only [Act.put, List.setIfInBounds_toArray, List.set_cons_zero, List.set_cons_succ]
  refine wpList_load32 rfl _ rfl _ rfl (ee) (hE6 (wa4.heap.size, ee) (.tail _ (.tail _ (.head _)))) ?_
  simp only [Act.put, List.setIfInBounds_toArray, List.set_cons_zero, List.set_cons_succ]
  go_wp2_with fail
  refine Calls.mono (Pow_f (a) (ee) ha heeM _ (rangeAt_grown hO hW6)) ?_
  rintro e w7 ⟨rfl, hg7⟩
  dsimp only
  go_step
  have hE7 := hE6.grown hg7
  have hW7 := grown_trans hW6 hg7
  clear hE6 hW6 hg7
  go_wp2_with (with_reducible show wpList _ _ _ ({ dst := _, op := Op.store 22 _ _, type := _, pos := _, after := _, guard := _ } :: _) _ _; refine Shut.out ?_)
  show wpList _ _ _ _ _ _
  refine wpList_store_new (fpow (a) (ee)) (by simp) rfl rfl rfl rfl (fun w8 hg8 hr8 _ => ?_)
  simp only [Act.put]
  have hE8 := (hE7.grown hg8).cons hr8
  have hW8 := grown_trans hW7 hg8
  clear hE7 hW7 hg8 hr8
  apply wpList_nil
  repeat ((fail_if_success (with_reducible show Code.wp _ (Code.region _ _ _) _ _ _)); go_step)
  apply wp_region_lit
  refine wpList_load32 rfl _ rfl _ rfl (a) (hE8 (w.heap.size, a) (.tail _ (.tail _ (.tail _ (.tail _ (.tail _ (.tail _ (.head _)))))))) ?_
  simp only [Act.put, List.setIfInBounds_toArray, List.set_cons_zero, List.set_cons_succ]
  refine wpList_load32 rfl _ rfl _ rfl (hh) (hE8 (wa6.heap.size, hh) (.tail _ (.head _))) ?_
  simp only [Act.put, List.setIfInBounds_toArray, List.set_cons_zero, List.set_cons_succ]
  go_wp2_with fail
  refine Calls.mono (Pow_f (a) (hh) ha hhhM _ (rangeAt_grown hO hW8)) ?_
  rintro e w9 ⟨rfl, hg9⟩
  dsimp only
  go_step
  have hE9 := hE8.grown hg9
  have hW9 := grown_trans hW8 hg9
  clear hE8 hW8 hg9
  go_wp2_with (with_reducible show wpList _ _ _ ({ dst := _, op := Op.store 22 _ _, type := _, pos := _, after := _, guard := _ } :: _) _ _; refine Shut.out ?_)
  show wpList _ _ _ _ _ _
  refine wpList_store_new (fpow (a) (hh)) (by simp) rfl rfl rfl rfl (fun w10 hg10 hr10 _ => ?_)
  simp only [Act.put]
  have hE10 := (hE9.grown hg10).cons hr10
  have hW10 := grown_trans hW9 hg10
  clear hE9 hW9 hg10 hr10
  apply wpList_nil
  repeat ((fail_if_success (with_reducible show Code.wp _ (Code.region _ _ _) _ _ _)); go_step)
  refine wp_region_noPanic ?_
  refine wp_region_held_drew (S := fun w' => Holds [(w9.heap.size, fpow (a) (hh)), (w7.heap.size, fpow (a) (ee)), (wa6.heap.size, hh), (wa5.heap.size, ff), (wa4.heap.size, ee), (w2.heap.size, 1), (w0.heap.size, 0), (w.heap.size, a)] w' ∧ Grown w w') (by kernel_rfl) ⟨hE10, hW10⟩ (fun hH11 => ?_)
  clear hE10 hW10
  refine take32 1 (ee) (wa4.heap.size) rfl (by kernel_rfl) (by kernel_rfl) (by kernel_rfl) (fun _ _ _ h => h) (by rfl) rfl rfl (fun _ h => h.1 (wa4.heap.size, ee) (.tail _ (.tail _ (.tail _ (.tail _ (.head _)))))) hH11 ?_
  simp only [Act.put, List.setIfInBounds_toArray, List.set_cons_zero, List.set_cons_succ]
  refine take32 3 (1) (w2.heap.size) rfl (by kernel_rfl) (by kernel_rfl) (by kernel_rfl) (fun _ _ _ h => h) (by rfl) rfl rfl (fun _ h => h.1 (w2.heap.size, 1) (.tail _ (.tail _ (.tail _ (.tail _ (.tail _ (.head _))))))) hH11 ?_
  simp only [Act.put, List.setIfInBounds_toArray, List.set_cons_zero, List.set_cons_succ]
  refine step1 0 (by kernel_rfl) rfl (fun K hK => ?_)
  rw [if_pos (by rfl)]
  go_simp
  refine Calls.mono (number_nat t (by rw [ht.out]; decide) 2 (by rw [ht.out]; rfl) _) ?_
  rintro e w12 ⟨rfl, hg12⟩
  dsimp only
  refine hK.out _ _ (keepE hH11 hg12) (fun hH12 => ?_)
  clear hK K
  clear hH11
  clear hg12
  refine step1 2 (by kernel_rfl) rfl (fun K hK => ?_)
  rw [if_pos (by rfl)]
  go_simp
  refine Calls.mono (Pow_f (t) (ee) htM heeM _ (rangeAt_grown hO hH12.2)) ?_
  rintro e w13 ⟨rfl, hg13⟩
  dsimp only
  refine hK.out _ _ (keepE hH12 hg13) (fun hH13 => ?_)
  clear hK K
  clear hH12
  clear hg13
  refine takeV 4 (.bool false) rfl (by kernel_rfl) (by kernel_rfl) (by kernel_rfl) (fun _ _ _ h => h) (by rfl) (fun w _ => exec_neq_same rfl (fpow (t) (ee)) (1) rfl rfl (fpow_lt _ _) (by decide) (h2e.out) w) hH13 ?_
  simp only [Act.put, List.setIfInBounds_toArray, List.set_cons_zero, List.set_cons_succ]
  refine takeV 5 (.bool false) rfl (by kernel_rfl) (by kernel_rfl) (by kernel_rfl) (fun _ _ _ h => h) (by rfl) (fun w _ => rfl) hH13 ?_
  simp only [Act.put, List.setIfInBounds_toArray, List.set_cons_zero, List.set_cons_succ]
  refine take32 6 (a) (w.heap.size) rfl (by kernel_rfl) (by kernel_rfl) (by kernel_rfl) (fun _ _ _ h => h) (by rfl) rfl rfl (fun _ h => h.1 (w.heap.size, a) (.tail _ (.tail _ (.tail _ (.tail _ (.tail _ (.tail _ (.tail _ (.head _))))))))) hH13 ?_
  simp only [Act.put, List.setIfInBounds_toArray, List.set_cons_zero, List.set_cons_succ]
  refine take32 7 (ff) (wa5.heap.size) rfl (by kernel_rfl) (by kernel_rfl) (by kernel_rfl) (fun _ _ _ h => h) (by rfl) rfl rfl (fun _ h => h.1 (wa5.heap.size, ff) (.tail _ (.tail _ (.tail _ (.head _))))) hH13 ?_
  simp only [Act.put, List.setIfInBounds_toArray, List.set_cons_zero, List.set_cons_succ]
  refine take32 9 (a) (w.heap.size) rfl (by kernel_rfl) (by kernel_rfl) (by kernel_rfl) (fun _ _ _ h => h) (by rfl) rfl rfl (fun _ h => h.1 (w.heap.size, a) (.tail _ (.tail _ (.tail _ (.tail _ (.tail _ (.tail _ (.tail _ (.head _))))))))) hH13 ?_
  simp only [Act.put, List.setIfInBounds_toArray, List.set_cons_zero, List.set_cons_succ]
  refine step1 8 (by kernel_rfl) rfl (fun K hK => ?_)
  rw [if_pos (by rfl)]
  go_simp
  refine Calls.mono (Pow_f (a) (ff) ha hffM _ (rangeAt_grown hO hH13.2)) ?_
  rintro e w14 ⟨rfl, hg14⟩
  dsimp only
  refine hK.out _ _ (keepE hH13 hg14) (fun hH14 => ?_)
  clear hK K
  clear hH13
  clear hg14
  refine step1 10 (by kernel_rfl) rfl (fun K hK => ?_)
  rw [if_pos (by rfl)]
  go_simp
  refine Calls.mono (Invert_any (a) ha _ (rangeAt_grown hG hH14.2)) ?_
  rintro e w15 ⟨rfl, hg15⟩
  dsimp only
  refine hK.out _ _ (keepE hH14 hg15) (fun hH15 => ?_)
  clear hK K
  clear hH14
  clear hg15
  refine takeV 11 (.bool false) rfl (by kernel_rfl) (by kernel_rfl) (by kernel_rfl) (fun _ _ _ h => h) (by rfl) (fun w _ => exec_neq_same rfl (fpow (a) (ff)) (inv (a)) rfl rfl (fpow_lt _ _) (finv_lt _) (hinv.out) w) hH15 ?_
  simp only [Act.put, List.setIfInBounds_toArray, List.set_cons_zero, List.set_cons_succ]
  refine takeV 12 (.bool false) rfl (by kernel_rfl) (by kernel_rfl) (by kernel_rfl) (fun _ _ _ h => h) (by rfl) (fun w _ => rfl) hH15 ?_
  simp only [Act.put, List.setIfInBounds_toArray, List.set_cons_zero, List.set_cons_succ]
  refine wpAnyH_done (by kernel_rfl) ?_ _
  refine NoPanic.normal ?_
  obtain ⟨hE16, hW16⟩ := hH15
  repeat ((fail_if_success (with_reducible show Code.wp _ (Code.region _ _ _) _ _ _)); go_step)
  apply wp_region_lit
  refine wpList_load32 rfl _ rfl _ rfl (a) (hE16 (w.heap.size, a) (.tail _ (.tail _ (.tail _ (.tail _ (.tail _ (.tail _ (.tail _ (.head _))))))))) ?_
  simp only [Act.put, List.setIfInBounds_toArray, List.set_cons_zero, List.set_cons_succ]
  go_wp2_with fail
  refine Calls.mono (Legendre_any (a) ha _ (rangeAt_grown hG hW16) (rangeAt_grown hO hW16)) ?_
  rintro e w17 ⟨rfl, hg17⟩
  dsimp only
  go_step
  have hE17 := hE16.grown hg17
  have hW17 := grown_trans hW16 hg17
  clear hE16 hW16 hg17
  apply wpList_nil
  repeat ((fail_if_success (with_reducible show Code.wp _ (Code.region _ _ _) _ _ _)); go_step)
  apply wp_region_lit
  refine wpList_val (.bool false) rfl (exec_eqlI rfl (leg (a)) (0) rfl rfl false (decide_eq_false hl0.out)) ?_
  simp only [Act.put, List.setIfInBounds_toArray, List.set_cons_zero, List.set_cons_succ]
  refine wpList_val (.bool false) rfl rfl ?_
  simp only [Act.put, List.setIfInBounds_toArray, List.set_cons_zero, List.set_cons_succ]
  apply wpList_nil
  repeat ((fail_if_success (with_reducible show Code.wp _ (Code.region _ _ _) _ _ _)); go_step)
  apply wp_region_lit
  refine wpList_val (.bool true) rfl (exec_eqlI rfl (leg (a)) (1) rfl rfl true (decide_eq_true hl.out)) ?_
  simp only [Act.put, List.setIfInBounds_toArray, List.set_cons_zero, List.set_cons_succ]
  refine wpList_val (.bool true) rfl rfl ?_
  simp only [Act.put, List.setIfInBounds_toArray, List.set_cons_zero, List.set_cons_succ]
  apply wpList_nil
  repeat ((fail_if_success (with_reducible show Code.wp _ (Code.region _ _ _) _ _ _)); go_step)
  apply wp_region_lit
  refine wpList_load32 rfl _ rfl _ rfl (fpow (a) (ee)) (hE17 (w7.heap.size, fpow (a) (ee)) (.tail _ (.head _))) ?_
  simp only [Act.put, List.setIfInBounds_toArray, List.set_cons_zero, List.set_cons_succ]
  refine wpList_load32 rfl _ rfl _ rfl (1) (hE17 (w2.heap.size, 1) (.tail _ (.tail _ (.tail _ (.tail _ (.tail _ (.head _))))))) ?_
  simp only [Act.put, List.setIfInBounds_toArray, List.set_cons_zero, List.set_cons_succ]
  refine wpList_val (.bool true) rfl (exec_eql_same rfl (fpow (a) (ee)) (1) rfl rfl (fpow_lt _ _) (by decide) (hx.out) _) ?_
  simp only [Act.put, List.setIfInBounds_toArray, List.set_cons_zero, List.set_cons_succ]
  refine wpList_val (.bool true) rfl rfl ?_
  simp only [Act.put, List.setIfInBounds_toArray, List.set_cons_zero, List.set_cons_succ]
  refine wpList_load32G (by rfl) _ rfl _ rfl (fpow (a) (hh)) (hE17 (w9.heap.size, fpow (a) (hh)) (.head _)) ?_
  simp only [Act.put, List.setIfInBounds_toArray, List.set_cons_zero, List.set_cons_succ]
  refine wpList_load32G (by rfl) _ rfl _ rfl (1) (hE17 (w2.heap.size, 1) (.tail _ (.tail _ (.tail _ (.tail _ (.tail _ (.head _))))))) ?_
  simp only [Act.put, List.setIfInBounds_toArray, List.set_cons_zero, List.set_cons_succ]
  refine wpList_valG (.bool true) (by rfl) (exec_eql_same rfl (fpow (a) (hh)) (1) rfl rfl (fpow_lt _ _) (by decide) (hy.out) _) ?_
  simp only [Act.put, List.setIfInBounds_toArray, List.set_cons_zero, List.set_cons_succ]
  refine wpList_val (.bool true) rfl rfl ?_
  simp only [Act.put, List.setIfInBounds_toArray, List.set_cons_zero, List.set_cons_succ]
  refine wpList_val (.bool true) rfl rfl ?_
  simp only [Act.put, List.setIfInBounds_toArray, List.set_cons_zero, List.set_cons_succ]
  apply wpList_nil
  repeat ((fail_if_success (with_reducible show Code.wp _ (Code.region _ _ _) _ _ _)); go_step)
  repeat go_step
  go_ret
  exact ⟨rfl, by first | assumption | exact hW17⟩

set_option maxRecDepth 100000 in
set_option maxHeartbeats 8000000 in
theorem fermat_walk2 (a t pp ee ff hh : Nat) (ha : a < M) (hpp : Hid (pp = p)) (ht : Hid (t = 2)) (htM : t < M) (heeM : ee < M) (hffM : ff < M) (hhhM : hh < M)
    (hb0 : ∀ (wr : World) {b : Nat}, wr.rangeAt b 0 (bl pp) → wr.cell? ⟨b, 0, none⟩ = some (.int .u8 237))
    (hmE : ∀ {wr : World} {b : Nat}, wr.rangeAt b 0 (bl pp) → (wr.setCell ⟨b, 0, none⟩ (.int .u8 236)).rangeAt b 0 (bl ee))
    (hmF : ∀ {wr : World} {b : Nat}, wr.rangeAt b 0 (bl pp) → (wr.setCell ⟨b, 0, none⟩ (.int .u8 235)).rangeAt b 0 (bl ff))
    (hmH : ∀ {wr : World} {b : Nat}, wr.rangeAt b 0 (bl pp) → ((wr.setCell ⟨b, 0, none⟩ (.int .u8 246)).setCell ⟨b, 31, none⟩ (.int .u8 63)).rangeAt b 0 (bl hh))
    (h2e : Hid (fpow t ee = 1)) (hinv : Hid (fpow a ff = inv a)) (hl0 : Hid (¬ leg a = 0)) (hl1 : Hid (¬ leg a = 1)) (hl : Hid (leg a = -1)) (hx : Hid (fpow a ee = 1)) (hy : Hid (fpow a hh = ng 1)) (w : World) (hG : w.rangeAt 2 0 PW) (hO : w.rangeAt 0 0 (nl 1)) :
    Calls Tryd.prog 7 #[bv a] w fun e w' => e = .returned (.bool true) ∧ Grown w w' := by
  rw [bv]
  go_enter Tryd.func7, Tryd.ntmps7
  go_wp2_with fail
  obtain ⟨hE0, hW0⟩ := params1 w a
  generalize (w.alloc (Obj.cells (bl a).toArray 22)) = W0 at hE0 hW0 ⊢
  refine Calls.mono (number_nat 0 (by decide) 0 rfl _) ?_
  rintro e w0 ⟨rfl, hg0⟩
  dsimp only
  go_step
  have hE00 := hE0.grown hg0
  have hW00 := grown_trans hW0 hg0
  clear hE0 hW0 hg0
  go_wp2_with (with_reducible show wpList _ _ _ ({ dst := _, op := Op.store 22 _ _, type := _, pos := _, after := _, guard := _ } :: _) _ _; refine Shut.out ?_)
  show wpList _ _ _ _ _ _
  refine wpList_store_new (0) (by simp) rfl rfl rfl rfl (fun w1 hg1 hr1 _ => ?_)
  simp only [Act.put]
  have hE1 := (hE00.grown hg1).cons hr1
  have hW1 := grown_trans hW00 hg1
  clear hE00 hW00 hg1 hr1
  apply wpList_nil
  repeat ((fail_if_success (with_reducible show Code.wp _ (Code.region _ _ _) _ _ _)); go_step)
  apply wp_region_lit
  go_wp2_with fail
  refine Calls.mono (number_nat 1 (by decide) 1 rfl _) ?_
  rintro e w2 ⟨rfl, hg2⟩
  dsimp only
  go_step
  have hE2 := hE1.grown hg2
  have hW2 := grown_trans hW1 hg2
  clear hE1 hW1 hg2
  go_wp2_with (with_reducible show wpList _ _ _ ({ dst := _, op := Op.store 22 _ _, type := _, pos := _, after := _, guard := _ } :: _) _ _; refine Shut.out ?_)
  show wpList _ _ _ _ _ _
  refine wpList_store_new (1) (by simp) rfl rfl rfl rfl (fun w3 hg3 hr3 _ => ?_)
  simp only [Act.put]
  have hE3 := (hE2.grown hg3).cons hr3
  have hW3 := grown_trans hW2 hg3
  clear hE2 hW2 hg3 hr3
  apply wpList_nil
  repeat ((fail_if_success (with_reducible show Code.wp _ (Code.region _ _ _) _ _ _)); go_step)
  apply wp_region_lit
  go_wp2_with fail
  refine Calls.mono (prime_is pp hpp.out _) ?_
  rintro r wa4 ⟨rfl, hga⟩
  dsimp only
  go_step
  have hE4a := hE3.grown hga
  have hW4a := grown_trans hW3 hga
  clear hE3 hW3 hga
  go_wp2_with (with_reducible show wpList _ _ _ ({ dst := _, op := Op.store 22 _ _, type := _, pos := _, after := _, guard := _ } :: _) _ _; refine Shut.out ?_)
  show wpList _ _ _ _ _ _
  refine wpList_store_new pp (by simp) rfl rfl rfl rfl (fun wb4 hgb hrb htb => ?_)
  simp only [Act.put]
  apply wpList_nil
  repeat ((fail_if_success (with_reducible show Code.wp _ (Code.region _ _ _) _ _ _)); go_step)
  apply wp_region_lit
  refine wpList_val (.pointer (some ⟨wa4.heap.size, 0, none⟩)) rfl (by go_simp) ?_
  simp only [Act.put, List.setIfInBounds_toArray, List.set_cons_zero, List.set_cons_succ]
  refine wpList_val (.int .u8 237) rfl (by have hc1 := hb0 _ hrb; go_simp) ?_
  simp only [Act.put, List.setIfInBounds_toArray, List.set_cons_zero, List.set_cons_succ]
  refine wpList_val (.int .u8 236) rfl (by go_simp; try rfl) ?_
  simp only [Act.put, List.setIfInBounds_toArray, List.set_cons_zero, List.set_cons_succ]
  refine wpList_val (.pointer (some ⟨wa4.heap.size, 0, none⟩)) rfl (by go_simp) ?_
  simp only [Act.put, List.setIfInBounds_toArray, List.set_cons_zero, List.set_cons_succ]
  refine wpList_store8 rfl rfl (wa4.heap.size) 0 236 (by decide) rfl rfl htb (fun wc hwc => ?_)
  simp only [Act.put]
  have hrc : wc.rangeAt (wa4.heap.size) 0 (bl ee) := by rw [hwc]; exact hmE hrb
  have hgc : Grown wa4 wc := by rw [hwc]; exact Grown.setCell hgb (Nat.le_refl _) _
  clear hwc hgb hrb htb
  have hE4 := (hE4a.grown hgc).cons hrc
  have hW4 := grown_trans hW4a hgc
  clear hE4a hW4a hgc hrc
  apply wpList_nil
  repeat ((fail_if_success (with_reducible show Code.wp _ (Code.region _ _ _) _ _ _)); go_step)
  apply wp_region_lit
  go_wp2_with fail
  refine Calls.mono (prime_is pp hpp.out _) ?_
  rintro r wa5 ⟨rfl, hga⟩
  dsimp only
  go_step
  have hE5a := hE4.grown hga
  have hW5a := grown_trans hW4 hga
  clear hE4 hW4 hga
  go_wp2_with (with_reducible show wpList _ _ _ ({ dst := _, op := Op.store 22 _ _, type := _, pos := _, after := _, guard := _ } :: _) _ _; refine Shut.out ?_)
  show wpList _ _ _ _ _ _
  refine wpList_store_new pp (by simp) rfl rfl rfl rfl (fun wb5 hgb hrb htb => ?_)
  simp only [Act.put]
  apply wpList_nil
  repeat ((fail_if_success (with_reducible show Code.wp _ (Code.region _ _ _) _ _ _)); go_step)
  apply wp_region_lit
  refine wpList_val (.pointer (some ⟨wa5.heap.size, 0, none⟩)) rfl (by go_simp) ?_
  simp only [Act.put, List.setIfInBounds_toArray, List.set_cons_zero, List.set_cons_succ]
  refine wpList_val (.int .u8 237) rfl (by have hc1 := hb0 _ hrb; go_simp) ?_
  simp only [Act.put, List.setIfInBounds_toArray, List.set_cons_zero, List.set_cons_succ]
  refine wpList_val (.int .u8 235) rfl (by go_simp; try rfl) ?_
  simp only [Act.put, List.setIfInBounds_toArray, List.set_cons_zero, List.set_cons_succ]
  refine wpList_val (.pointer (some ⟨wa5.heap.size, 0, none⟩)) rfl (by go_simp) ?_
  simp only [Act.put, List.setIfInBounds_toArray, List.set_cons_zero, List.set_cons_succ]
  refine wpList_store8 rfl rfl (wa5.heap.size) 0 235 (by decide) rfl rfl htb (fun wc hwc => ?_)
  simp only [Act.put]
  have hrc : wc.rangeAt (wa5.heap.size) 0 (bl ff) := by rw [hwc]; exact hmF hrb
  have hgc : Grown wa5 wc := by rw [hwc]; exact Grown.setCell hgb (Nat.le_refl _) _
  clear hwc hgb hrb htb
  have hE5 := (hE5a.grown hgc).cons hrc
  have hW5 := grown_trans hW5a hgc
  clear hE5a hW5a hgc hrc
  apply wpList_nil
  repeat ((fail_if_success (with_reducible show Code.wp _ (Code.region _ _ _) _ _ _)); go_step)
  apply wp_region_lit
  go_wp2_with fail
  refine Calls.mono (prime_is pp hpp.out _) ?_
  rintro r wa6 ⟨rfl, hga⟩
  dsimp only
  go_step
  have hE6a := hE5.grown hga
  have hW6a := grown_trans hW5 hga
  clear hE5 hW5 hga
  go_wp2_with (with_reducible show wpList _ _ _ ({ dst := _, op := Op.store 22 _ _, type := _, pos := _, after := _, guard := _ } :: _) _ _; refine Shut.out ?_)
  show wpList _ _ _ _ _ _
  refine wpList_store_new pp (by simp) rfl rfl rfl rfl (fun wb6 hgb hrb htb => ?_)
  simp only [Act.put]
  apply wpList_nil
  repeat ((fail_if_success (with_reducible show Code.wp _ (Code.region _ _ _) _ _ _)); go_step)
  apply wp_region_lit
  refine wpList_val (.pointer (some ⟨wa6.heap.size, 0, none⟩)) rfl (by go_simp) ?_
  simp only [Act.put, List.setIfInBounds_toArray, List.set_cons_zero, List.set_cons_succ]
  refine wpList_store8 rfl rfl (wa6.heap.size) 0 246 (by decide) rfl rfl htb (fun wd hwd => ?_)
  simp only [Act.put]
  have htd : wd.there (wa6.heap.size) 0 32 := by rw [hwd]; exact there_setCell htb _ _
  apply wpList_nil
  repeat ((fail_if_success (with_reducible show Code.wp _ (Code.region _ _ _) _ _ _)); go_step)
  apply wp_region_lit
  refine wpList_val (.pointer (some ⟨wa6.heap.size, 31, none⟩)) rfl (by go_simp) ?_
  simp only [Act.put, List.setIfInBounds_toArray, List.set_cons_zero, List.set_cons_succ]
  refine wpList_store8 rfl rfl (wa6.heap.size) 31 63 (by decide) rfl rfl htd (fun wc hwc => ?_)
  simp only [Act.put]
  have hrc : wc.rangeAt (wa6.heap.size) 0 (bl hh) := by rw [hwc, hwd]; exact hmH hrb
  have hgc : Grown wa6 wc := by rw [hwc, hwd]; exact Grown.setCell (Grown.setCell hgb (Nat.le_refl _) _) (Nat.le_refl _) _
  clear hwc hwd hgb hrb htb htd
  have hE6 := (hE6a.grown hgc).cons hrc
  have hW6 := grown_trans hW6a hgc
  clear hE6a hW6a hgc hrc
  apply wpList_nil
  repeat ((fail_if_success (with_reducible show Code.wp _ (Code.region _ _ _) _ _ _)); go_step)
  apply wp_region_lit
  refine wpList_load32 rfl _ rfl _ rfl (a) (hE6 (w.heap.size, a) (.tail _ (.tail _ (.tail _ (.tail _ (.tail _ (.head _))))))) ?_
  simp only [Act.put, List.setIfInBounds_toArray, List.set_cons_zero, List.set_cons_succ]
  refine wpList_load32 rfl _ rfl _ rfl (ee) (hE6 (wa4.heap.size, ee) (.tail _ (.tail _ (.head _)))) ?_
  simp only [Act.put, List.setIfInBounds_toArray, List.set_cons_zero, List.set_cons_succ]
  go_wp2_with fail
  refine Calls.mono (Pow_f (a) (ee) ha heeM _ (rangeAt_grown hO hW6)) ?_
  rintro e w7 ⟨rfl, hg7⟩
  dsimp only
  go_step
  have hE7 := hE6.grown hg7
  have hW7 := grown_trans hW6 hg7
  clear hE6 hW6 hg7
  go_wp2_with (with_reducible show wpList _ _ _ ({ dst := _, op := Op.store 22 _ _, type := _, pos := _, after := _, guard := _ } :: _) _ _; refine Shut.out ?_)
  show wpList _ _ _ _ _ _
  refine wpList_store_new (fpow (a) (ee)) (by simp) rfl rfl rfl rfl (fun w8 hg8 hr8 _ => ?_)
  simp only [Act.put]
  have hE8 := (hE7.grown hg8).cons hr8
  have hW8 := grown_trans hW7 hg8
  clear hE7 hW7 hg8 hr8
  apply wpList_nil
  repeat ((fail_if_success (with_reducible show Code.wp _ (Code.region _ _ _) _ _ _)); go_step)
  apply wp_region_lit
  refine wpList_load32 rfl _ rfl _ rfl (a) (hE8 (w.heap.size, a) (.tail _ (.tail _ (.tail _ (.tail _ (.tail _ (.tail _ (.head _)))))))) ?_
  simp only [Act.put, List.setIfInBounds_toArray, List.set_cons_zero, List.set_cons_succ]
  refine wpList_load32 rfl _ rfl _ rfl (hh) (hE8 (wa6.heap.size, hh) (.tail _ (.head _))) ?_
  simp only [Act.put, List.setIfInBounds_toArray, List.set_cons_zero, List.set_cons_succ]
  go_wp2_with fail
  refine Calls.mono (Pow_f (a) (hh) ha hhhM _ (rangeAt_grown hO hW8)) ?_
  rintro e w9 ⟨rfl, hg9⟩
  dsimp only
  go_step
  have hE9 := hE8.grown hg9
  have hW9 := grown_trans hW8 hg9
  clear hE8 hW8 hg9
  go_wp2_with (with_reducible show wpList _ _ _ ({ dst := _, op := Op.store 22 _ _, type := _, pos := _, after := _, guard := _ } :: _) _ _; refine Shut.out ?_)
  show wpList _ _ _ _ _ _
  refine wpList_store_new (fpow (a) (hh)) (by simp) rfl rfl rfl rfl (fun w10 hg10 hr10 _ => ?_)
  simp only [Act.put]
  have hE10 := (hE9.grown hg10).cons hr10
  have hW10 := grown_trans hW9 hg10
  clear hE9 hW9 hg10 hr10
  apply wpList_nil
  repeat ((fail_if_success (with_reducible show Code.wp _ (Code.region _ _ _) _ _ _)); go_step)
  refine wp_region_noPanic ?_
  refine wp_region_held_drew (S := fun w' => Holds [(w9.heap.size, fpow (a) (hh)), (w7.heap.size, fpow (a) (ee)), (wa6.heap.size, hh), (wa5.heap.size, ff), (wa4.heap.size, ee), (w2.heap.size, 1), (w0.heap.size, 0), (w.heap.size, a)] w' ∧ Grown w w') (by kernel_rfl) ⟨hE10, hW10⟩ (fun hH11 => ?_)
  clear hE10 hW10
  refine take32 1 (ee) (wa4.heap.size) rfl (by kernel_rfl) (by kernel_rfl) (by kernel_rfl) (fun _ _ _ h => h) (by rfl) rfl rfl (fun _ h => h.1 (wa4.heap.size, ee) (.tail _ (.tail _ (.tail _ (.tail _ (.head _)))))) hH11 ?_
  simp only [Act.put, List.setIfInBounds_toArray, List.set_cons_zero, List.set_cons_succ]
  refine take32 3 (1) (w2.heap.size) rfl (by kernel_rfl) (by kernel_rfl) (by kernel_rfl) (fun _ _ _ h => h) (by rfl) rfl rfl (fun _ h => h.1 (w2.heap.size, 1) (.tail _ (.tail _ (.tail _ (.tail _ (.tail _ (.head _))))))) hH11 ?_
  simp only [Act.put, List.setIfInBounds_toArray, List.set_cons_zero, List.set_cons_succ]
  refine step1 0 (by kernel_rfl) rfl (fun K hK => ?_)
  rw [if_pos (by rfl)]
  go_simp
  refine Calls.mono (number_nat t (by rw [ht.out]; decide) 2 (by rw [ht.out]; rfl) _) ?_
  rintro e w12 ⟨rfl, hg12⟩
  dsimp only
  refine hK.out _ _ (keepE hH11 hg12) (fun hH12 => ?_)
  clear hK K
  clear hH11
  clear hg12
  refine step1 2 (by kernel_rfl) rfl (fun K hK => ?_)
  rw [if_pos (by rfl)]
  go_simp
  refine Calls.mono (Pow_f (t) (ee) htM heeM _ (rangeAt_grown hO hH12.2)) ?_
  rintro e w13 ⟨rfl, hg13⟩
  dsimp only
  refine hK.out _ _ (keepE hH12 hg13) (fun hH13 => ?_)
  clear hK K
  clear hH12
  clear hg13
  refine takeV 4 (.bool false) rfl (by kernel_rfl) (by kernel_rfl) (by kernel_rfl) (fun _ _ _ h => h) (by rfl) (fun w _ => exec_neq_same rfl (fpow (t) (ee)) (1) rfl rfl (fpow_lt _ _) (by decide) (h2e.out) w) hH13 ?_
  simp only [Act.put, List.setIfInBounds_toArray, List.set_cons_zero, List.set_cons_succ]
  refine takeV 5 (.bool false) rfl (by kernel_rfl) (by kernel_rfl) (by kernel_rfl) (fun _ _ _ h => h) (by rfl) (fun w _ => rfl) hH13 ?_
  simp only [Act.put, List.setIfInBounds_toArray, List.set_cons_zero, List.set_cons_succ]
  refine take32 6 (a) (w.heap.size) rfl (by kernel_rfl) (by kernel_rfl) (by kernel_rfl) (fun _ _ _ h => h) (by rfl) rfl rfl (fun _ h => h.1 (w.heap.size, a) (.tail _ (.tail _ (.tail _ (.tail _ (.tail _ (.tail _ (.tail _ (.head _))))))))) hH13 ?_
  simp only [Act.put, List.setIfInBounds_toArray, List.set_cons_zero, List.set_cons_succ]
  refine take32 7 (ff) (wa5.heap.size) rfl (by kernel_rfl) (by kernel_rfl) (by kernel_rfl) (fun _ _ _ h => h) (by rfl) rfl rfl (fun _ h => h.1 (wa5.heap.size, ff) (.tail _ (.tail _ (.tail _ (.head _))))) hH13 ?_
  simp only [Act.put, List.setIfInBounds_toArray, List.set_cons_zero, List.set_cons_succ]
  refine take32 9 (a) (w.heap.size) rfl (by kernel_rfl) (by kernel_rfl) (by kernel_rfl) (fun _ _ _ h => h) (by rfl) rfl rfl (fun _ h => h.1 (w.heap.size, a) (.tail _ (.tail _ (.tail _ (.tail _ (.tail _ (.tail _ (.tail _ (.head _))))))))) hH13 ?_
  simp only [Act.put, List.setIfInBounds_toArray, List.set_cons_zero, List.set_cons_succ]
  refine step1 8 (by kernel_rfl) rfl (fun K hK => ?_)
  rw [if_pos (by rfl)]
  go_simp
  refine Calls.mono (Pow_f (a) (ff) ha hffM _ (rangeAt_grown hO hH13.2)) ?_
  rintro e w14 ⟨rfl, hg14⟩
  dsimp only
  refine hK.out _ _ (keepE hH13 hg14) (fun hH14 => ?_)
  clear hK K
  clear hH13
  clear hg14
  refine step1 10 (by kernel_rfl) rfl (fun K hK => ?_)
  rw [if_pos (by rfl)]
  go_simp
  refine Calls.mono (Invert_any (a) ha _ (rangeAt_grown hG hH14.2)) ?_
  rintro e w15 ⟨rfl, hg15⟩
  dsimp only
  refine hK.out _ _ (keepE hH14 hg15) (fun hH15 => ?_)
  clear hK K
  clear hH14
  clear hg15
  refine takeV 11 (.bool false) rfl (by kernel_rfl) (by kernel_rfl) (by kernel_rfl) (fun _ _ _ h => h) (by rfl) (fun w _ => exec_neq_same rfl (fpow (a) (ff)) (inv (a)) rfl rfl (fpow_lt _ _) (finv_lt _) (hinv.out) w) hH15 ?_
  simp only [Act.put, List.setIfInBounds_toArray, List.set_cons_zero, List.set_cons_succ]
  refine takeV 12 (.bool false) rfl (by kernel_rfl) (by kernel_rfl) (by kernel_rfl) (fun _ _ _ h => h) (by rfl) (fun w _ => rfl) hH15 ?_
  simp only [Act.put, List.setIfInBounds_toArray, List.set_cons_zero, List.set_cons_succ]
  refine wpAnyH_done (by kernel_rfl) ?_ _
  refine NoPanic.normal ?_
  obtain ⟨hE16, hW16⟩ := hH15
  repeat ((fail_if_success (with_reducible show Code.wp _ (Code.region _ _ _) _ _ _)); go_step)
  apply wp_region_lit
  refine wpList_load32 rfl _ rfl _ rfl (a) (hE16 (w.heap.size, a) (.tail _ (.tail _ (.tail _ (.tail _ (.tail _ (.tail _ (.tail _ (.head _))))))))) ?_
  simp only [Act.put, List.setIfInBounds_toArray, List.set_cons_zero, List.set_cons_succ]
  go_wp2_with fail
  refine Calls.mono (Legendre_any (a) ha _ (rangeAt_grown hG hW16) (rangeAt_grown hO hW16)) ?_
  rintro e w17 ⟨rfl, hg17⟩
  dsimp only
  go_step
  have hE17 := hE16.grown hg17
  have hW17 := grown_trans hW16 hg17
  clear hE16 hW16 hg17
  apply wpList_nil
  repeat ((fail_if_success (with_reducible show Code.wp _ (Code.region _ _ _) _ _ _)); go_step)
  apply wp_region_lit
  refine wpList_val (.bool false) rfl (exec_eqlI rfl (leg (a)) (0) rfl rfl false (decide_eq_false hl0.out)) ?_
  simp only [Act.put, List.setIfInBounds_toArray, List.set_cons_zero, List.set_cons_succ]
  refine wpList_val (.bool false) rfl rfl ?_
  simp only [Act.put, List.setIfInBounds_toArray, List.set_cons_zero, List.set_cons_succ]
  apply wpList_nil
  repeat ((fail_if_success (with_reducible show Code.wp _ (Code.region _ _ _) _ _ _)); go_step)
  apply wp_region_lit
  refine wpList_val (.bool false) rfl (exec_eqlI rfl (leg (a)) (1) rfl rfl false (decide_eq_false hl1.out)) ?_
  simp only [Act.put, List.setIfInBounds_toArray, List.set_cons_zero, List.set_cons_succ]
  refine wpList_val (.bool false) rfl rfl ?_
  simp only [Act.put, List.setIfInBounds_toArray, List.set_cons_zero, List.set_cons_succ]
  apply wpList_nil
  repeat ((fail_if_success (with_reducible show Code.wp _ (Code.region _ _ _) _ _ _)); go_step)
  apply wp_region_lit
  refine wpList_val (.bool true) rfl (exec_eqlI rfl (leg (a)) ((-1)) rfl rfl true (decide_eq_true hl.out)) ?_
  simp only [Act.put, List.setIfInBounds_toArray, List.set_cons_zero, List.set_cons_succ]
  refine wpList_val (.bool true) rfl rfl ?_
  simp only [Act.put, List.setIfInBounds_toArray, List.set_cons_zero, List.set_cons_succ]
  apply wpList_nil
  repeat ((fail_if_success (with_reducible show Code.wp _ (Code.region _ _ _) _ _ _)); go_step)
  refine wp_region_noPanic ?_
  refine wp_region_held_drew (S := fun w' => Holds [(w9.heap.size, fpow (a) (hh)), (w7.heap.size, fpow (a) (ee)), (wa6.heap.size, hh), (wa5.heap.size, ff), (wa4.heap.size, ee), (w2.heap.size, 1), (w0.heap.size, 0), (w.heap.size, a)] w' ∧ Grown w w') (by kernel_rfl) ⟨hE17, hW17⟩ (fun hH18 => ?_)
  clear hE17 hW17
  refine take32 0 (fpow (a) (ee)) (w7.heap.size) rfl (by kernel_rfl) (by kernel_rfl) (by kernel_rfl) (fun _ _ _ h => h) (by rfl) rfl rfl (fun _ h => h.1 (w7.heap.size, fpow (a) (ee)) (.tail _ (.head _))) hH18 ?_
  simp only [Act.put, List.setIfInBounds_toArray, List.set_cons_zero, List.set_cons_succ]
  refine take32 1 (1) (w2.heap.size) rfl (by kernel_rfl) (by kernel_rfl) (by kernel_rfl) (fun _ _ _ h => h) (by rfl) rfl rfl (fun _ h => h.1 (w2.heap.size, 1) (.tail _ (.tail _ (.tail _ (.tail _ (.tail _ (.head _))))))) hH18 ?_
  simp only [Act.put, List.setIfInBounds_toArray, List.set_cons_zero, List.set_cons_succ]
  refine takeV 2 (.bool true) rfl (by kernel_rfl) (by kernel_rfl) (by kernel_rfl) (fun _ _ _ h => h) (by rfl) (fun w _ => exec_eql_same rfl (fpow (a) (ee)) (1) rfl rfl (fpow_lt _ _) (by decide) (hx.out) w) hH18 ?_
  simp only [Act.put, List.setIfInBounds_toArray, List.set_cons_zero, List.set_cons_succ]
  refine takeV 3 (.bool true) rfl (by kernel_rfl) (by kernel_rfl) (by kernel_rfl) (fun _ _ _ h => h) (by rfl) (fun w _ => rfl) hH18 ?_
  simp only [Act.put, List.setIfInBounds_toArray, List.set_cons_zero, List.set_cons_succ]
  refine take32 4 (fpow (a) (hh)) (w9.heap.size) rfl (by kernel_rfl) (by kernel_rfl) (by kernel_rfl) (fun _ _ _ h => h) (by rfl) rfl rfl (fun _ h => h.1 (w9.heap.size, fpow (a) (hh)) (.head _)) hH18 ?_
  simp only [Act.put, List.setIfInBounds_toArray, List.set_cons_zero, List.set_cons_succ]
  refine take32 5 (1) (w2.heap.size) rfl (by kernel_rfl) (by kernel_rfl) (by kernel_rfl) (fun _ _ _ h => h) (by rfl) rfl rfl (fun _ h => h.1 (w2.heap.size, 1) (.tail _ (.tail _ (.tail _ (.tail _ (.tail _ (.head _))))))) hH18 ?_
  simp only [Act.put, List.setIfInBounds_toArray, List.set_cons_zero, List.set_cons_succ]
  refine step1 6 (by kernel_rfl) rfl (fun K hK => ?_)
  rw [if_pos (by rfl)]
  go_simp
  refine Calls.mono (Neg_any (1) (by decide) _) ?_
  rintro e w19 ⟨rfl, hg19⟩
  dsimp only
  refine hK.out _ _ (keepE hH18 hg19) (fun hH19 => ?_)
  clear hK K
  clear hH18
  clear hg19
  refine takeV 7 (.bool true) rfl (by kernel_rfl) (by kernel_rfl) (by kernel_rfl) (fun _ _ _ h => h) (by rfl) (fun w _ => exec_eql_same rfl (fpow (a) (hh)) (ng (1)) rfl rfl (fpow_lt _ _) (fng_lt _) (hy.out) w) hH19 ?_
  simp only [Act.put, List.setIfInBounds_toArray, List.set_cons_zero, List.set_cons_succ]
  refine takeV 8 (.bool true) rfl (by kernel_rfl) (by kernel_rfl) (by kernel_rfl) (fun _ _ _ h => h) (by rfl) (fun w _ => rfl) hH19 ?_
  simp only [Act.put, List.setIfInBounds_toArray, List.set_cons_zero, List.set_cons_succ]
  refine takeV 9 (.bool true) rfl (by kernel_rfl) (by kernel_rfl) (by kernel_rfl) (fun _ _ _ h => h) (by rfl) (fun w _ => rfl) hH19 ?_
  simp only [Act.put, List.setIfInBounds_toArray, List.set_cons_zero, List.set_cons_succ]
  refine wpAnyH_done (by kernel_rfl) ?_ _
  refine NoPanic.normal ?_
  obtain ⟨hE20, hW20⟩ := hH19
  repeat go_step
  go_ret
  exact ⟨rfl, by first | assumption | exact hW20⟩
end Go.Proofs.YtfnbodpbdfeiiaaDoor
