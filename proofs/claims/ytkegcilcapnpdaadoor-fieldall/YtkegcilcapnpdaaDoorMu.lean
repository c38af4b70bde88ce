import Derived.Test.YtkegcilcapnpdaaDoorMt
namespace Go.Proofs.YtkegcilcapnpdaaDoor
open Go.RowKit Go.Shelf FieldNum

theorem d16_none (j : Nat) : d16 0 j = 0 := by simp [d16]
set_option maxRecDepth 100000 in
set_option maxHeartbeats 4000000 in
theorem Same_r (a b : Nat) (ha : a < S256) (hb : b < S256) (w : World) : Calls Tryd.prog 92 #[sn a, sn b] w fun e w' => e = .returned (.bool (decide (a = b))) ∧ Grown w w' := by
  go_enter Tryd.func92, Tryd.ntmps92
  repeat ((fail_if_success (with_reducible show Code.wp _ (Code.region _ _ _) _ _ _)); go_step)
  refine wp_plain [.box 45 (il 16 (d16 a)), .box 45 (il 16 (d16 b)), .imm (.bool false)] (by kernel_rfl) (fun β => ?_) (fun β w1 hD => ?_)
  · refine Obs.cons (Ob.box rfl rfl (by kernel_rfl)) ?_
    refine Obs.cons (Ob.box rfl rfl (by kernel_rfl)) ?_
    refine Obs.cons (Ob.imm rfl (fun w => by kernel_rfl)) ?_
    exact Obs.nil
  have h0 := (hD.bx 0 _ _ rfl).2
  have h1 := (hD.bx 1 _ _ rfl).2
  have hW := hD.gr
  clear hD
  simp only [finAct, putAll, valsFrom, Plan.value, Act.put, List.setIfInBounds_toArray, List.set_cons_zero, List.set_cons_succ]
  generalize β 0 = b0 at *
  generalize β (0 + 1) = b1 at *
  go_wp2
  go_loopw [5] (fun v wr => ∃ i : Nat, v = .int .i64 (i : Int) ∧ i ≤ 16 ∧ (∀ j, j < i → d16 a j = d16 b j) ∧ wr.rangeAt b0 0 (il 16 (d16 a)) ∧ wr.rangeAt b1 0 (il 16 (d16 b)) ∧ Grown w wr) (fun v _ => (16 - intOf v).toNat)
  case atStart => exact ⟨0, rfl, by decide, fun j hj => absurd hj (Nat.not_lt_zero j), h0, h1, hW⟩
  case round =>
    obtain ⟨i, rfl, hk, heq, h0, h1, hW⟩ := hrel
    by_cases hi : i < 16
    · repeat ((fail_if_success (with_reducible show Code.wp _ (Code.region _ _ _) _ _ _)); go_step)
      refine wp_plain [.imm (.int .i64 (i : Int)), .imm (.bool true)] (by kernel_rfl) (fun β => ?_) (fun β w2 hD => ?_)
      · refine Obs.cons (Ob.imm rfl (fun w => by kernel_rfl)) ?_
        refine Obs.cons (Ob.imm rfl (fun w => exec_lssI rfl (i : Int) 16 (by kernel_rfl) (by kernel_rfl) true (decide_eq_true (by omega)))) ?_
        exact Obs.nil
      replace h0 := rangeAt_grown h0 hD.gr
      replace h1 := rangeAt_grown h1 hD.gr
      replace hW := grown_trans hW hD.gr
      clear hD
      replace h0 := rangeAt_grown h0 (gdrew w2)
      replace h1 := rangeAt_grown h1 (gdrew w2)
      replace hW := grown_trans hW (gdrew w2)
      simp only [finAct, putAll, valsFrom, Plan.value, Act.put, List.setIfInBounds_toArray, List.set_cons_zero, List.set_cons_succ]
      repeat ((fail_if_success (with_reducible show Code.wp _ (Code.region _ _ _) _ _ _)); go_step)
      have hxa := cell_i h0 hi
      have hxb := cell_i h1 hi
      obtain ⟨x, ex⟩ : ∃ x, x = d16 a i := ⟨_, rfl⟩
      rw [← ex] at hxa
      obtain ⟨y, ey⟩ : ∃ y, y = d16 b i := ⟨_, rfl⟩
      rw [← ey] at hxb
      by_cases hc : x = y
      · refine wp_loose [.imm (.int .i64 (i : Int)), .imm (.pointer (some ⟨b0, i, none⟩)), .val (.int .i64 x), .imm (.int .i64 (i : Int)), .imm (.pointer (some ⟨b1, i, none⟩)), .val (.int .i64 y), .imm (.bool false)] (by kernel_rfl) (by kernel_rfl) (fun β => ?_) (fun β w3 hD => ?_)
        · refine Obs.cons (Ob.imm rfl (fun w => by kernel_rfl)) ?_
          refine Obs.cons (Ob.imm rfl (fun w => exec_idxS i hi rfl (by kernel_rfl) (by kernel_rfl))) ?_
          refine Obs.cons (Ob.load1 b0 i rfl rfl (by kernel_rfl) (block_lt_of_cell hxa) hxa (fun w h => run_loadI w h)) ?_
          refine Obs.cons (Ob.imm rfl (fun w => by kernel_rfl)) ?_
          refine Obs.cons (Ob.imm rfl (fun w => exec_idxS i hi rfl (by kernel_rfl) (by kernel_rfl))) ?_
          refine Obs.cons (Ob.load1 b1 i rfl rfl (by kernel_rfl) (block_lt_of_cell hxb) hxb (fun w h => run_loadI w h)) ?_
          refine Obs.cons (Ob.imm rfl (fun w => exec_neqI rfl x y (by kernel_rfl) (by kernel_rfl) false (by rw [decide_eq_true hc]; rfl))) ?_
          exact Obs.nil
        replace h0 := rangeAt_grown h0 hD.gr
        replace h1 := rangeAt_grown h1 hD.gr
        replace hW := grown_trans hW hD.gr
        clear hD
        have hii := Hid.of (show ∀ j, j < i + 1 → d16 a j = d16 b j from fun j hj => by
          by_cases e : j = i
          · subst e; rw [← ex, ← ey, hc]
          · exact heq j (by omega))
        have hH := Hid.of (And.intro h0 (And.intro h1 hW))
        have hi2 := Hid.of hi
        have eL := Hid.of (show wrap64 ((i : Int) + 1) = ((i + 1 : Nat) : Int) by unfold wrap64; omega)
        clear heq hxa hxb ey h1 ex hc h0 hW hi hk
        simp only [finAct, putAll, valsFrom, Plan.value, Act.put, List.setIfInBounds_toArray, List.set_cons_zero, List.set_cons_succ]
        go_wp2
        rw [eL.out]
        exact ⟨⟨i + 1, rfl, hi2.out, hii.out, hH.out.1, hH.out.2.1, hH.out.2.2⟩, by have := hi2.out; simp [intOf]; omega⟩
      · refine wp_loose [.imm (.int .i64 (i : Int)), .imm (.pointer (some ⟨b0, i, none⟩)), .val (.int .i64 x), .imm (.int .i64 (i : Int)), .imm (.pointer (some ⟨b1, i, none⟩)), .val (.int .i64 y), .imm (.bool true)] (by kernel_rfl) (by kernel_rfl) (fun β => ?_) (fun β w3 hD => ?_)
        · refine Obs.cons (Ob.imm rfl (fun w => by kernel_rfl)) ?_
          refine Obs.cons (Ob.imm rfl (fun w => exec_idxS i hi rfl (by kernel_rfl) (by kernel_rfl))) ?_
          refine Obs.cons (Ob.load1 b0 i rfl rfl (by kernel_rfl) (block_lt_of_cell hxa) hxa (fun w h => run_loadI w h)) ?_
          refine Obs.cons (Ob.imm rfl (fun w => by kernel_rfl)) ?_
          refine Obs.cons (Ob.imm rfl (fun w => exec_idxS i hi rfl (by kernel_rfl) (by kernel_rfl))) ?_
          refine Obs.cons (Ob.load1 b1 i rfl rfl (by kernel_rfl) (block_lt_of_cell hxb) hxb (fun w h => run_loadI w h)) ?_
          refine Obs.cons (Ob.imm rfl (fun w => exec_neqI rfl x y (by kernel_rfl) (by kernel_rfl) true (by rw [decide_eq_false hc]; rfl))) ?_
          exact Obs.nil
        replace h0 := rangeAt_grown h0 hD.gr
        replace h1 := rangeAt_grown h1 hD.gr
        replace hW := grown_trans hW hD.gr
        clear hD
        clear hxa hxb
        simp only [finAct, putAll, valsFrom, Plan.value, Act.put, List.setIfInBounds_toArray, List.set_cons_zero, List.set_cons_succ]
        repeat ((fail_if_success (with_reducible show Code.wp _ (Code.region _ _ _) _ _ _)); go_step)
        refine wp_plain [.imm (.bool false)] (by kernel_rfl) (fun β => ?_) (fun β w4 hD => ?_)
        · refine Obs.cons (Ob.imm rfl (fun w => by kernel_rfl)) ?_
          exact Obs.nil
        replace h0 := rangeAt_grown h0 hD.gr
        replace h1 := rangeAt_grown h1 hD.gr
        replace hW := grown_trans hW hD.gr
        clear hD
        simp only [finAct, putAll, valsFrom, Plan.value, Act.put, List.setIfInBounds_toArray, List.set_cons_zero, List.set_cons_succ]
        repeat go_step
        go_ret
        exact ⟨by rw [decide_eq_false (fun e => hc (by rw [ex, ey, e]))]; rfl, hW⟩
    · obtain rfl : i = 16 := by omega
      have e := d16_inj ha hb heq
      clear heq hk hi
      repeat ((fail_if_success (with_reducible show Code.wp _ (Code.region _ _ _) _ _ _)); go_step)
      refine wp_plain [.imm (.int .i64 ((16 : Nat) : Int)), .imm (.bool false)] (by kernel_rfl) (fun β => ?_) (fun β w2 hD => ?_)
      · refine Obs.cons (Ob.imm rfl (fun w => by kernel_rfl)) ?_
        refine Obs.cons (Ob.imm rfl (fun w => by kernel_rfl)) ?_
        exact Obs.nil
      replace hW := grown_trans hW hD.gr
      clear hD
      simp only [finAct, putAll, valsFrom, Plan.value, Act.put, List.setIfInBounds_toArray, List.set_cons_zero, List.set_cons_succ]
      repeat ((fail_if_success (with_reducible show Code.wp _ (Code.region _ _ _) _ _ _)); go_step)
      refine wp_plain [.imm (.bool true)] (by kernel_rfl) (fun β => ?_) (fun β w3 hD => ?_)
      · refine Obs.cons (Ob.imm rfl (fun w => by kernel_rfl)) ?_
        exact Obs.nil
      replace hW := grown_trans hW hD.gr
      clear hD
      simp only [finAct, putAll, valsFrom, Plan.value, Act.put, List.setIfInBounds_toArray, List.set_cons_zero, List.set_cons_succ]
      repeat go_step
      go_ret
      exact ⟨by rw [decide_eq_true e]; rfl, hW⟩

set_option maxRecDepth 100000 in
set_option maxHeartbeats 4000000 in
theorem Zero_r (a : Nat) (ha : a < S256) (w : World) : Calls Tryd.prog 70 #[sn a] w fun e w' => e = .returned (.bool (decide (a = 0))) ∧ Grown w w' := by
  go_enter Tryd.func70, Tryd.ntmps70
  repeat ((fail_if_success (with_reducible show Code.wp _ (Code.region _ _ _) _ _ _)); go_step)
  refine wp_plain [.box 45 (il 16 (d16 a)), .imm (.bool false)] (by kernel_rfl) (fun β => ?_) (fun β w1 hD => ?_)
  · refine Obs.cons (Ob.box rfl rfl (by kernel_rfl)) ?_
    refine Obs.cons (Ob.imm rfl (fun w => by kernel_rfl)) ?_
    exact Obs.nil
  have h0 := (hD.bx 0 _ _ rfl).2
  have hW := hD.gr
  clear hD
  simp only [finAct, putAll, valsFrom, Plan.value, Act.put, List.setIfInBounds_toArray, List.set_cons_zero, List.set_cons_succ]
  generalize β 0 = b0 at *
  go_wp2
  go_loopw [3] (fun v wr => ∃ i : Nat, v = .int .i64 (i : Int) ∧ i ≤ 16 ∧ (∀ j, j < i → d16 a j = 0) ∧ wr.rangeAt b0 0 (il 16 (d16 a)) ∧ Grown w wr) (fun v _ => (16 - intOf v).toNat)
  case atStart => exact ⟨0, rfl, by decide, fun j hj => absurd hj (Nat.not_lt_zero j), h0, hW⟩
  case round =>
    obtain ⟨i, rfl, hk, heq, h0, hW⟩ := hrel
    by_cases hi : i < 16
    · repeat ((fail_if_success (with_reducible show Code.wp _ (Code.region _ _ _) _ _ _)); go_step)
      refine wp_plain [.imm (.int .i64 (i : Int)), .imm (.bool true)] (by kernel_rfl) (fun β => ?_) (fun β w2 hD => ?_)
      · refine Obs.cons (Ob.imm rfl (fun w => by kernel_rfl)) ?_
        refine Obs.cons (Ob.imm rfl (fun w => exec_lssI rfl (i : Int) 16 (by kernel_rfl) (by kernel_rfl) true (decide_eq_true (by omega)))) ?_
        exact Obs.nil
      replace h0 := rangeAt_grown h0 hD.gr
      replace hW := grown_trans hW hD.gr
      clear hD
      simp only [finAct, putAll, valsFrom, Plan.value, Act.put, List.setIfInBounds_toArray, List.set_cons_zero, List.set_cons_succ]
      repeat ((fail_if_success (with_reducible show Code.wp _ (Code.region _ _ _) _ _ _)); go_step)
      have hxa := cell_i h0 hi
      obtain ⟨x, ex⟩ : ∃ x, x = d16 a i := ⟨_, rfl⟩
      rw [← ex] at hxa
      by_cases hc : x = 0
      · refine wp_plain [.imm (.int .i64 (i : Int)), .imm (.pointer (some ⟨b0, i, none⟩)), .val (.int .i64 x), .imm (.bool false)] (by kernel_rfl) (fun β => ?_) (fun β w3 hD => ?_)
        · refine Obs.cons (Ob.imm rfl (fun w => by kernel_rfl)) ?_
          refine Obs.cons (Ob.imm rfl (fun w => exec_idxS i hi rfl (by kernel_rfl) (by kernel_rfl))) ?_
          refine Obs.cons (Ob.load1 b0 i rfl rfl (by kernel_rfl) (block_lt_of_cell hxa) hxa (fun w h => run_loadI w h)) ?_
          refine Obs.cons (Ob.imm rfl (fun w => exec_neqI rfl x 0 (by kernel_rfl) (by kernel_rfl) false (by rw [decide_eq_true hc]; rfl))) ?_
          exact Obs.nil
        replace h0 := rangeAt_grown h0 hD.gr
        replace hW := grown_trans hW hD.gr
        clear hD
        have hii := Hid.of (show ∀ j, j < i + 1 → d16 a j = 0 from fun j hj => by
          by_cases e : j = i
          · subst e; rw [← ex, hc]
          · exact heq j (by omega))
        have hH := Hid.of (And.intro h0 (hW))
        have hi2 := Hid.of hi
        have eL := Hid.of (show wrap64 ((i : Int) + 1) = ((i + 1 : Nat) : Int) by unfold wrap64; omega)
        clear heq hxa ex hc h0 hW hi hk
        simp only [finAct, putAll, valsFrom, Plan.value, Act.put, List.setIfInBounds_toArray, List.set_cons_zero, List.set_cons_succ]
        go_wp2
        rw [eL.out]
        exact ⟨⟨i + 1, rfl, hi2.out, hii.out, hH.out.1, hH.out.2⟩, by have := hi2.out; simp [intOf]; omega⟩
      · refine wp_plain [.imm (.int .i64 (i : Int)), .imm (.pointer (some ⟨b0, i, none⟩)), .val (.int .i64 x), .imm (.bool true)] (by kernel_rfl) (fun β => ?_) (fun β w3 hD => ?_)
        · refine Obs.cons (Ob.imm rfl (fun w => by kernel_rfl)) ?_
          refine Obs.cons (Ob.imm rfl (fun w => exec_idxS i hi rfl (by kernel_rfl) (by kernel_rfl))) ?_
          refine Obs.cons (Ob.load1 b0 i rfl rfl (by kernel_rfl) (block_lt_of_cell hxa) hxa (fun w h => run_loadI w h)) ?_
          refine Obs.cons (Ob.imm rfl (fun w => exec_neqI rfl x 0 (by kernel_rfl) (by kernel_rfl) true (by rw [decide_eq_false hc]; rfl))) ?_
          exact Obs.nil
        replace h0 := rangeAt_grown h0 hD.gr
        replace hW := grown_trans hW hD.gr
        clear hD
        clear hxa
        simp only [finAct, putAll, valsFrom, Plan.value, Act.put, List.setIfInBounds_toArray, List.set_cons_zero, List.set_cons_succ]
        repeat ((fail_if_success (with_reducible show Code.wp _ (Code.region _ _ _) _ _ _)); go_step)
        refine wp_plain [.imm (.bool false)] (by kernel_rfl) (fun β => ?_) (fun β w4 hD => ?_)
        · refine Obs.cons (Ob.imm rfl (fun w => by kernel_rfl)) ?_
          exact Obs.nil
        replace h0 := rangeAt_grown h0 hD.gr
        replace hW := grown_trans hW hD.gr
        clear hD
        simp only [finAct, putAll, valsFrom, Plan.value, Act.put, List.setIfInBounds_toArray, List.set_cons_zero, List.set_cons_succ]
        repeat go_step
        go_ret
        exact ⟨by rw [decide_eq_false (fun e => hc (by rw [ex, e]; exact d16_none i))]; rfl, hW⟩
    · obtain rfl : i = 16 := by omega
      have e := d16_inj ha (by decide) (fun j hj => (heq j hj).trans (d16_none j).symm)
      clear heq hk hi
      repeat ((fail_if_success (with_reducible show Code.wp _ (Code.region _ _ _) _ _ _)); go_step)
      refine wp_plain [.imm (.int .i64 ((16 : Nat) : Int)), .imm (.bool false)] (by kernel_rfl) (fun β => ?_) (fun β w2 hD => ?_)
      · refine Obs.cons (Ob.imm rfl (fun w => by kernel_rfl)) ?_
        refine Obs.cons (Ob.imm rfl (fun w => by kernel_rfl)) ?_
        exact Obs.nil
      replace hW := grown_trans hW hD.gr
      clear hD
      simp only [finAct, putAll, valsFrom, Plan.value, Act.put, List.setIfInBounds_toArray, List.set_cons_zero, List.set_cons_succ]
      repeat ((fail_if_success (with_reducible show Code.wp _ (Code.region _ _ _) _ _ _)); go_step)
      refine wp_plain [.imm (.bool true)] (by kernel_rfl) (fun β => ?_) (fun β w3 hD => ?_)
      · refine Obs.cons (Ob.imm rfl (fun w => by kernel_rfl)) ?_
        exact Obs.nil
      replace hW := grown_trans hW hD.gr
      clear hD
      simp only [finAct, putAll, valsFrom, Plan.value, Act.put, List.setIfInBounds_toArray, List.set_cons_zero, List.set_cons_succ]
      repeat go_step
      go_ret
      exact ⟨by rw [decide_eq_true e]; rfl, hW⟩

end Go.Proofs.YtkegcilcapnpdaaDoor

namespace Go.Proofs.YtkegcilcapnpdaaDoor
open Go.RowKit Go.Shelf FieldNum

set_option maxRecDepth 100000 in
set_option maxHeartbeats 4000000 in
theorem less_r (a b : Nat) (ha : a < S256) (hb : b ≤ a) (w : World) : Calls Tryd.prog 90 #[sn a, sn b] w fun e w' => e = .returned (sn (a - b)) ∧ Grown w w' := by
  go_enter Tryd.func90, Tryd.ntmps90
  repeat ((fail_if_success (with_reducible show Code.wp _ (Code.region _ _ _) _ _ _)); go_step)
  refine wp_plain [.box 45 (il 16 (d16 a)), .box 45 (il 16 (d16 b)), .new 45 16] (by kernel_rfl) (fun β => ?_) (fun β w1 hD => ?_)
  · refine Obs.cons (Ob.box rfl rfl (by kernel_rfl)) ?_
    refine Obs.cons (Ob.box rfl rfl (by kernel_rfl)) ?_
    refine Obs.cons (Ob.new _ rfl rfl zeroS (by simp [il_length])) ?_
    exact Obs.nil
  have hr0 := (hD.bx 0 _ _ rfl).2
  have hr1 := (hD.bx 1 _ _ rfl).2
  obtain ⟨hf2, ht2⟩ := hD.nw 2 _ _ rfl
  have hW := hD.gr
  clear hD
  simp only [finAct, putAll, valsFrom, Plan.value, Act.put, List.setIfInBounds_toArray, List.set_cons_zero, List.set_cons_succ]
  generalize β 0 = b0 at *
  generalize β (0 + 1) = b1 at *
  generalize β (0 + 1 + 1) = bR at *
  repeat ((fail_if_success (with_reducible show Code.wp _ (Code.region _ _ _) _ _ _)); go_step)
  refine wp_plain [.box 45 (il 16 fun _ => 0)] (by kernel_rfl) (fun β => ?_) (fun β w2 hD => ?_)
  · refine Obs.cons (Ob.newz (il 16 fun _ => 0) rfl rfl zeroS) ?_
    exact Obs.nil
  obtain ⟨hf3, hr3⟩ := hD.bx 0 _ _ rfl
  have hb2 : bR < w1.heap.size := there_lt' ht2 (by decide)
  have hP0 : KX w 16 (β 0) bR 16 (iF fun _ => 0) [(b0, il 16 (d16 a)), (b1, il 16 (d16 b))] w2 := ⟨fun j hj => cell_i hr3 hj, fun j => (hD.gr.2.1 _).trans (frozen_past hf3), fun q hq => by
      rcases List.mem_cons.1 hq with rfl | hq
      · exact ⟨rangeAt_grown hr0 hD.gr, ne_of_freshI hr0 (by decide) hf3⟩
      obtain rfl := List.mem_singleton.1 hq
      exact ⟨rangeAt_grown hr1 hD.gr, ne_of_freshI hr1 (by decide) hf3⟩,
      there_grown ht2 hD.gr, by omega, Nat.le_trans hW.2.2 hf3, hf2, grown_trans hW hD.gr⟩
  clear hD hf2 ht2 hW hf3 hr3 hb2 hr0 hr1
  simp only [finAct, putAll, valsFrom, Plan.value, Act.put, List.setIfInBounds_toArray, List.set_cons_zero, List.set_cons_succ]
  generalize β 0 = bG at *
  go_wp2
  go_loopw [6, 7] (fun v6 v7 wr => ∃ k : Nat, v7 = .int .i64 (k : Int) ∧ v6 = .int .i64 (brw (d16 a) (d16 b) k) ∧ k ≤ 16 ∧ KX w 16 bG bR 16 (iF (mix (bdg (d16 a) (d16 b)) (fun _ => 0) k)) [(b0, il 16 (d16 a)), (b1, il 16 (d16 b))] wr) (fun _ v7 _ => (16 - intOf v7).toNat)
  case atStart => exact ⟨0, rfl, rfl, by decide, by rw [mix_zero]; exact hP0⟩
  case round =>
    obtain ⟨k, rfl, rfl, hk, hX⟩ := hrel
    clear hP0
    by_cases hlt : k < 16
    · repeat ((fail_if_success (with_reducible show Code.wp _ (Code.region _ _ _) _ _ _)); go_step)
      refine wp_plain [.imm (.int .i64 (k : Int)), .imm (.bool true)] (by kernel_rfl) (fun β => ?_) (fun β w3 hD => ?_)
      · refine Obs.cons (Ob.imm rfl (fun w => by kernel_rfl)) ?_
        refine Obs.cons (Ob.imm rfl (fun w => exec_lssI rfl (k : Int) 16 (by kernel_rfl) (by kernel_rfl) true (decide_eq_true (by omega)))) ?_
        exact Obs.nil
      replace hX := (hX.grown hD.gr).grown (gdrew w3)
      clear hD
      simp only [finAct, putAll, valsFrom, Plan.value, Act.put, List.setIfInBounds_toArray, List.set_cons_zero, List.set_cons_succ]
      repeat ((fail_if_success (with_reducible show Code.wp _ (Code.region _ _ _) _ _ _)); go_step)
      have hxa := cell_i (hX.arg b0 _ (List.mem_cons_self ..)) hlt
      have hxb := cell_i (hX.arg b1 _ (List.mem_cons_of_mem _ (List.mem_cons_self ..))) hlt
      have hia := d16_in a 16 k hlt
      have hib := d16_in b 16 k hlt
      have hic := brw_in (d16 a) (d16 b) k
      have hbd : bdg (d16 a) (d16 b) k = if d16 a k - d16 b k - brw (d16 a) (d16 b) k < 0 then d16 a k - d16 b k - brw (d16 a) (d16 b) k + 65536 else d16 a k - d16 b k - brw (d16 a) (d16 b) k := rfl
      have hbn : brw (d16 a) (d16 b) (k + 1) = if d16 a k - d16 b k - brw (d16 a) (d16 b) k < 0 then 1 else 0 := rfl
      obtain ⟨x, ex⟩ : ∃ x, x = d16 a k := ⟨_, rfl⟩
      obtain ⟨y, ey⟩ : ∃ y, y = d16 b k := ⟨_, rfl⟩
      obtain ⟨c, ec⟩ : ∃ c, c = brw (d16 a) (d16 b) k := ⟨_, rfl⟩
      rw [← ex] at hxa hia hbd hbn
      rw [← ey] at hxb hib hbd hbn
      rw [← ec] at hic hbd hbn
      rw [← ec]
      clear ex ey ec
      refine wp_loose [.imm (.int .i64 (k : Int)), .imm (.pointer (some ⟨b0, k, none⟩)), .val (.int .i64 x), .imm (.int .i64 (k : Int)), .imm (.pointer (some ⟨b1, k, none⟩)), .val (.int .i64 y), .imm (.int .i64 (x - y)), .imm (.int .i64 c), .imm (.int .i64 (x - y - c)), .imm (.int .i64 (x - y - c))] (by kernel_rfl) (by kernel_rfl) (fun β => ?_) (fun β w4 hD => ?_)
      · refine Obs.cons (Ob.imm rfl (fun w => by kernel_rfl)) ?_
        refine Obs.cons (Ob.imm rfl (fun w => exec_idxS k hlt rfl (by kernel_rfl) (by kernel_rfl))) ?_
        refine Obs.cons (Ob.load1 b0 k rfl rfl (by kernel_rfl) (block_lt_of_cell hxa) hxa (fun w h => run_loadI w h)) ?_
        refine Obs.cons (Ob.imm rfl (fun w => by kernel_rfl)) ?_
        refine Obs.cons (Ob.imm rfl (fun w => exec_idxS k hlt rfl (by kernel_rfl) (by kernel_rfl))) ?_
        refine Obs.cons (Ob.load1 b1 k rfl rfl (by kernel_rfl) (block_lt_of_cell hxb) hxb (fun w h => run_loadI w h)) ?_
        refine Obs.cons (Ob.imm rfl (fun w => exec_subI x y _ rfl (by kernel_rfl) (by kernel_rfl) (by rw [IntKind.wrap_i64]; omega))) ?_
        refine Obs.cons (Ob.imm rfl (fun w => by kernel_rfl)) ?_
        refine Obs.cons (Ob.imm rfl (fun w => exec_subI (x - y) c _ rfl (by kernel_rfl) (by kernel_rfl) (by rw [IntKind.wrap_i64]; omega))) ?_
        refine Obs.cons (Ob.imm rfl (fun w => by kernel_rfl)) ?_
        exact Obs.nil
      replace hX := hX.grown hD.gr
      clear hD hxa hxb
      simp only [finAct, putAll, valsFrom, Plan.value, Act.put, List.setIfInBounds_toArray, List.set_cons_zero, List.set_cons_succ]
      have d2 := hX.icell hlt
      have d3 := hX.fr k
      have k1 : (k : Int) < 16 := by omega
      have hkk := Hid.of hlt
      obtain ⟨z, ez⟩ : ∃ z, z = x - y - c := ⟨_, rfl⟩
      rw [← ez] at hbd hbn
      rw [← ez]
      by_cases hz : z < 0
      · rw [if_pos hz] at hbd hbn
        have hS := Hid.of (hX.iset (mix (bdg (d16 a) (d16 b)) (fun _ => 0) (k + 1)) k hlt (z + 65536) (by rw [mix_put, hbd]) (mix_off _ _ _))
        have hbn' := Hid.of hbn
        have e1 := Hid.of (show wrap64 (z + 65536) = z + 65536 by unfold wrap64; omega)
        clear hX hbd hbn ez hia hib hic hlt hk
        go_wp2
        rw [e1.out]
        exact ⟨⟨k + 1, by simp, by rw [hbn'.out], hkk.out, hS.out⟩, by have := hkk.out; simp [intOf]; omega⟩
      · rw [if_neg hz] at hbd hbn
        have hS := Hid.of (hX.iset (mix (bdg (d16 a) (d16 b)) (fun _ => 0) (k + 1)) k hlt (z) (by rw [mix_put, hbd]) (mix_off _ _ _))
        have hbn' := Hid.of hbn
        clear hX hbd hbn ez hia hib hic hlt hk
        have hz0 : 0 ≤ z := by omega
        go_wp2
        exact ⟨⟨k + 1, by simp, by rw [hbn'.out], hkk.out, hS.out⟩, by have := hkk.out; simp [intOf]; omega⟩
    · obtain rfl : k = 16 := by omega
      have hr := (hX.icongr (h := d16 (a - b)) (fun j hj => by rw [mix_all _ _ hj]; exact bdg_eq ha hb j hj)).irange
      have ht := hX.tr
      have hf := hX.f2
      have hW := hX.gw
      clear hX hlt hk
      go_wp2_with (with_reducible show wpList _ _ _ ({ dst := _, op := Op.load 45 _, type := _, pos := _, after := _, guard := _ } :: _) _ _; refine Shut.out ?_)
      show wpList _ _ _ _ _ _
      refine wpList_load_mid rfl 45 _ rfl bG 0 rfl (il 16 (d16 (a - b))) _ hr Tryd.underlying45 rfl (by rw [il_length]; exact infoS) ?_
      simp only [Act.put, List.setIfInBounds_toArray, List.set_cons_zero, List.set_cons_succ]
      refine wpList_store_mid rfl 45 _ _ rfl bR 0 (il 16 (d16 (a - b))).toArray rfl rfl (by rw [List.size_toArray, il_length]; exact ht) (by rw [List.size_toArray, il_length]; exact infoS) (all_oneCell_toArray (il_one _ _)) ?_
      simp only [Act.put]
      apply wpList_nil
      repeat go_step
      refine bodyPost_ret (v := sn (a - b)) (result_cells Tryd.results90 _ _ bR (il 16 (d16 (a - b))) ?hp (World.rangeAt_setCells_same _ _ _ _ (by rw [il_length]; exact ht)) Tryd.underlying45 rfl (by rw [il_length]; exact infoS)) ?hd ?_
      case hp => rfl
      case hd => rfl
      exact ⟨rfl, grown_setCells hf _ _ hW⟩

end Go.Proofs.YtkegcilcapnpdaaDoor

namespace Go.Proofs.YtkegcilcapnpdaaDoor
open Go.RowKit Go.Shelf FieldNum

theorem KX.istore {w0 wr : World} {n g r m : Nat} {F : Nat → Value} {bs : List (Nat × List Value)} (s : KX w0 n g r m F bs wr) (h : Nat → Int) : KX w0 n g r m (iF h) bs (wr.setCells g 0 (il n h)) :=
  ⟨fun j hj => cell_i (World.rangeAt_setCells_same _ _ _ _ (by rw [il_length]; exact s.there)) hj, fun j => by rw [World.frozen?_setCells]; exact s.fr j,
    fun q hq => ⟨World.rangeAt_setCells_apart (s.rs q hq).1 _ _ _ (.inl (s.rs q hq).2), (s.rs q hq).2⟩, World.there_setCells s.tr _ _ _, s.ne, s.fg, s.f2, grown_setCells s.fg _ _ s.gw⟩
/-- what the world's cells hold -/
def rdI (wr : World) (g j : Nat) : Int := match wr.cell? ⟨g, j, none⟩ with | some (.int _ z) => z | _ => 0
theorem KX.rd {w0 wr : World} {n g r m : Nat} {f : Nat → Int} {bs : List (Nat × List Value)} (s : KX w0 n g r m (iF f) bs wr) : es (rdI wr g) n = es f n := by
  refine es_congr fun j hj => ?_
  unfold rdI
  rw [s.icell hj]
/-- the laid prime -/
def Gp (w : World) : Prop := w.rangeAt 1 0 (il 16 (d16 p))
theorem Gp.grown {w w' : World} (h : Gp w) (hg : Grown w w') : Gp w' := rangeAt_grown h hg
theorem mod_less {m q : Nat} (h : q ≤ m) : (m - q) % q = m % q := (Nat.mod_eq_sub_mod h).symm
set_option maxRecDepth 100000 in
set_option maxHeartbeats 4000000 in
theorem fit_q (a q : Nat) (ha : a < S256) (hq : q < S256) (hq0 : 0 < q) (w : World) (hpr : w.rangeAt 1 0 (il 16 (d16 q))) : Calls Tryd.prog 87 #[sn a] w fun e w' => e = .returned (sn (a % q)) ∧ Grown w w' := by
  go_enter Tryd.func87, Tryd.ntmps87
  repeat ((fail_if_success (with_reducible show Code.wp _ (Code.region _ _ _) _ _ _)); go_step)
  refine wp_plain [.box 45 (il 16 (d16 a)), .new 45 16] (by kernel_rfl) (fun β => ?_) (fun β w1 hD => ?_)
  · refine Obs.cons (Ob.box rfl rfl (by kernel_rfl)) ?_
    refine Obs.cons (Ob.new _ rfl rfl zeroS (by simp [il_length])) ?_
    exact Obs.nil
  obtain ⟨hf0, hr0⟩ := hD.bx 0 _ _ rfl
  obtain ⟨hf2, ht2⟩ := hD.nw 1 _ _ rfl
  have hn := hD.ap 0 1 _ _ rfl rfl rfl rfl (by decide)
  have hfr : ∀ j, w1.frozen? ⟨β 0, j, none⟩ = false := fun j => (hD.gr.2.1 _).trans (frozen_past hf0)
  have hW := hD.gr
  clear hD
  simp only [finAct, putAll, valsFrom, Plan.value, Act.put, List.setIfInBounds_toArray, List.set_cons_zero, List.set_cons_succ]
  generalize β 0 = b0 at *
  generalize β (0 + 1) = bR at *
  have hp1 := rangeAt_grown hpr hW
  repeat ((fail_if_success (with_reducible show Code.wp _ (Code.region _ _ _) _ _ _)); go_step)
  refine wp_plain [.val (sn q), .new 45 16, .put 1 1 (fun _ => il 16 (d16 q))] (by kernel_rfl) (fun β => ?_) (fun β w2 hD => ?_)
  · refine Obs.cons (Ob.call 40 #[] rfl (fun w => by kernel_rfl) (fun w hg => P_r q w (rangeAt_grown hp1 hg))) ?_
    refine Obs.cons (Ob.new _ rfl rfl zeroS (by simp [il_length])) ?_
    refine Obs.cons (Ob.put 45 rfl rfl rfl (by kernel_rfl) (by kernel_rfl) (by rw [il_length]; exact infoS) (il_one _ _)) ?_
    exact Obs.nil
  obtain ⟨hfP, htP⟩ := hD.nw 1 _ _ rfl
  have hrP : w2.rangeAt (β 1) 0 (il 16 (d16 q)) := hD.rg 2 1 1 (fun _ => il 16 (d16 q)) rfl
  have hb0 : b0 < w1.heap.size := block_lt_of_cell (cell_i hr0 (by decide : 0 < 16))
  have hP0 : KX w 16 b0 bR 16 (iF (d16 a)) [(β 1, il 16 (d16 q))] w2 := ⟨fun j hj => cell_i (rangeAt_grown hr0 hD.gr) hj, fun j => (hD.gr.2.1 _).trans (hfr j), fun z hz => by
      obtain rfl := List.mem_singleton.1 hz
      exact ⟨hrP, (by show β 1 ≠ b0; omega)⟩, there_grown ht2 hD.gr, hn, hf0, hf2, grown_trans hW hD.gr⟩
  clear hD hr0 hf0 hf2 ht2 hn hfr hW hp1 hfP htP hrP hb0 hpr
  simp only [finAct, putAll, valsFrom, Plan.value, Act.put, List.setIfInBounds_toArray, List.set_cons_zero, List.set_cons_succ]
  generalize β (0 + 1) = bP at *
  go_wp2
  go_loopw [4] (fun _ wr => ∃ m : Nat, m < S256 ∧ m % q = a % q ∧ KX w 16 b0 bR 16 (iF (d16 m)) [(bP, il 16 (d16 q))] wr) (fun _ wr => (es (rdI wr b0) 16).toNat)
  case atStart => exact ⟨a, ha, rfl, hP0⟩
  case round =>
    obtain ⟨m, hm, hmq, hX⟩ := hrel
    clear hP0
    have hrm := Hid.of (hX.rd.trans (es_d16 hm))
    repeat ((fail_if_success (with_reducible show Code.wp _ (Code.region _ _ _) _ _ _)); go_step)
    refine wp_plain [.val (sn m), .val (sn q), .val (.bool (decide (m < q))), .imm (.bool (decide (m < q)))] (by kernel_rfl) (fun β => ?_) (fun β w3 hD => ?_)
    · refine Obs.cons (Ob.load b0 0 (il 16 (d16 m)) rfl rfl (by kernel_rfl) hX.irange Tryd.underlying45 rfl (by rw [il_length]; exact infoS)) ?_
      refine Obs.cons (Ob.load bP 0 (il 16 (d16 q)) rfl rfl (by kernel_rfl) (hX.arg bP _ (List.mem_singleton.2 rfl)) Tryd.underlying45 rfl (by rw [il_length]; exact infoS)) ?_
      refine Obs.cons (Ob.call 95 #[sn m, sn q] rfl (fun w => by kernel_rfl) (fun w _ => Below_r m q hm hq w)) ?_
      refine Obs.cons (Ob.imm rfl (fun w => by kernel_rfl)) ?_
      exact Obs.nil
    replace hX := hX.grown hD.gr
    clear hD
    simp only [finAct, putAll, valsFrom, Plan.value, Act.put, List.setIfInBounds_toArray, List.set_cons_zero, List.set_cons_succ]
    by_cases hc : m < q
    · rw [decide_eq_true hc]
      repeat ((fail_if_success (with_reducible show Code.wp _ (Code.region _ _ _) _ _ _)); go_step)
      refine wp_plain [.imm (.bool true)] (by kernel_rfl) (fun β => ?_) (fun β w4 hD => ?_)
      · refine Obs.cons (Ob.imm rfl (fun w => by kernel_rfl)) ?_
        exact Obs.nil
      replace hX := hX.grown hD.gr
      clear hD
      simp only [finAct, putAll, valsFrom, Plan.value, Act.put, List.setIfInBounds_toArray, List.set_cons_zero, List.set_cons_succ]
      repeat ((fail_if_success (with_reducible show Code.wp _ (Code.region _ _ _) _ _ _)); go_step)
      refine wp_plain_fin [.val (sn m), .fin] bR 0 (fun _ => il 16 (d16 m)) (by kernel_rfl) (fun β => ?_) (fun β w5 hD => ?_)
      · refine Obs.cons (Ob.load b0 0 (il 16 (d16 m)) rfl rfl (by kernel_rfl) hX.irange Tryd.underlying45 rfl (by rw [il_length]; exact infoS)) ?_
        refine Obs.cons (Ob.fin rfl (by rw [il_length]; exact hX.tr) rfl (by kernel_rfl) (by kernel_rfl) (by rw [il_length]; exact infoS) (il_one _ _)) ?_
        exact Obs.nil
      replace hX := hX.grown hD.gr
      have hr := World.rangeAt_setCells_same w5 bR 0 (il 16 (d16 m)) (by rw [il_length]; exact hX.tr)
      have hW := grown_setCells hX.f2 (il 16 (d16 m)) 0 hX.gw
      have em : m = a % q := by rw [← hmq, Nat.mod_eq_of_lt hc]
      clear hD
      simp only [finAct, putAll, valsFrom, Plan.value, Act.put, List.setIfInBounds_toArray, List.set_cons_zero, List.set_cons_succ]
      repeat go_step
      refine bodyPost_ret (v := sn m) (result_cells Tryd.results87 _ _ bR (il 16 (d16 m)) ?hp hr Tryd.underlying45 rfl (by rw [il_length]; exact infoS)) ?hd ?_
      case hp => rfl
      case hd => rfl
      exact ⟨by rw [em], hW⟩
    · rw [decide_eq_false hc]
      repeat ((fail_if_success (with_reducible show Code.wp _ (Code.region _ _ _) _ _ _)); go_step)
      refine wp_plain [.imm (.bool false)] (by kernel_rfl) (fun β => ?_) (fun β w4 hD => ?_)
      · refine Obs.cons (Ob.imm rfl (fun w => by kernel_rfl)) ?_
        exact Obs.nil
      replace hX := hX.grown hD.gr
      clear hD
      simp only [finAct, putAll, valsFrom, Plan.value, Act.put, List.setIfInBounds_toArray, List.set_cons_zero, List.set_cons_succ]
      repeat ((fail_if_success (with_reducible show Code.wp _ (Code.region _ _ _) _ _ _)); go_step)
      refine wp_plain_fin [.val (sn m), .val (sn q), .val (sn (m - q)), .fin] b0 0 (fun _ => il 16 (d16 (m - q))) (by kernel_rfl) (fun β => ?_) (fun β w5 hD => ?_)
      · refine Obs.cons (Ob.load b0 0 (il 16 (d16 m)) rfl rfl (by kernel_rfl) hX.irange Tryd.underlying45 rfl (by rw [il_length]; exact infoS)) ?_
        refine Obs.cons (Ob.load bP 0 (il 16 (d16 q)) rfl rfl (by kernel_rfl) (hX.arg bP _ (List.mem_singleton.2 rfl)) Tryd.underlying45 rfl (by rw [il_length]; exact infoS)) ?_
        refine Obs.cons (Ob.call 90 #[sn m, sn q] rfl (fun w => by kernel_rfl) (fun w _ => less_r m q hm (by omega) w)) ?_
        refine Obs.cons (Ob.fin rfl (by rw [il_length]; exact hX.there) rfl (by kernel_rfl) (by kernel_rfl) (by rw [il_length]; exact infoS) (il_one _ _)) ?_
        exact Obs.nil
      have hY := (hX.grown hD.gr).istore (d16 (m - q))
      have hmm := (mod_less (Nat.le_of_not_lt hc)).trans hmq
      have hm2 : m - q < S256 := by omega
      have hrd := hY.rd.trans (es_d16 hm2)
      clear hD
      simp only [finAct, putAll, valsFrom, Plan.value, Act.put, List.setIfInBounds_toArray, List.set_cons_zero, List.set_cons_succ]
      generalize w5.setCells b0 0 (il 16 (d16 (m - q))) = w6 at *
      have hY2 := Hid.of hY
      have hrd2 := Hid.of hrd
      have hh := Hid.of (And.intro hm2 (And.intro hmm hc))
      clear hX hY hrd hm2 hmm hc
      go_wp2
      refine ⟨⟨m - q, hh.out.1, hh.out.2.1, hY2.out⟩, ?_⟩
      rw [hrd2.out, hrm.out]
      have := hh.out.2.2
      omega

theorem fit_r (a : Nat) (ha : a < S256) (w : World) (hpr : Gp w) : Calls Tryd.prog 87 #[sn a] w fun e w' => e = .returned (sn (a % p)) ∧ Grown w w' := fit_q a p ha p_S p_pos w hpr
end Go.Proofs.YtkegcilcapnpdaaDoor

namespace Go.Proofs.YtkegcilcapnpdaaDoor
open Go.RowKit Go.Shelf FieldNum

theorem step16 {v : Int} (h : 0 ≤ v ∧ v ≤ 9007199254740992) : v.tmod 65536 = v % 65536 ∧ wrap64 (v.tdiv 65536) = v / 65536 := by
  rw [Int.tmod_eq_emod_of_nonneg h.1, Int.tdiv_eq_ediv_of_nonneg h.1]
  refine ⟨rfl, ?_⟩
  unfold wrap64
  omega
def isTb : Value → Bool | .bool b => b | _ => false
theorem rs_nil {P : Nat × List Value → Prop} : ∀ q ∈ ([] : List (Nat × List Value)), P q := fun q hq => by cases hq
set_option maxRecDepth 100000 in
set_option maxHeartbeats 8000000 in
theorem fold_r (f : Nat → Int) (N : Nat) (hC : Cols f N) (w : World) (hpr : Gp w) : Calls Tryd.prog 88 #[sv 32 f] w fun e w' => e = .returned (sn (N % p)) ∧ Grown w w' := by
  go_enter Tryd.func88, Tryd.ntmps88
  repeat ((fail_if_success (with_reducible show Code.wp _ (Code.region _ _ _) _ _ _)); go_step)
  refine wp_plain [.box 92 (il 32 f), .new 45 16] (by kernel_rfl) (fun β => ?_) (fun β w1 hD => ?_)
  · refine Obs.cons (Ob.box rfl rfl (by kernel_rfl)) ?_
    refine Obs.cons (Ob.new _ rfl rfl zeroS (by simp [il_length])) ?_
    exact Obs.nil
  have hP0 : KX w 32 (β 0) (β 1) 16 (iF f) [] w1 := ⟨fun j hj => cell_i (hD.bx 0 _ _ rfl).2 hj, fun j => (hD.gr.2.1 _).trans (frozen_past (hD.bx 0 _ _ rfl).1), rs_nil, (hD.nw 1 _ _ rfl).2, hD.ap 0 1 _ _ rfl rfl rfl rfl (by decide), (hD.bx 0 _ _ rfl).1, (hD.nw 1 _ _ rfl).1, hD.gr⟩
  clear hD
  simp only [finAct, putAll, valsFrom, Plan.value, Act.put, List.setIfInBounds_toArray, List.set_cons_zero, List.set_cons_succ]
  generalize β 0 = b0 at *
  generalize β (0 + 1) = bR at *
  have HC := Hid.of hC
  have HG := Hid.of hpr
  clear hC hpr
  go_wp2
  go_loopw [3, 4] (fun v3 v4 wr => ∃ k : Nat, v4 = .int .i64 (k : Int) ∧ v3 = .int .i64 (kry 0 f k) ∧ k ≤ 32 ∧ KX w 32 b0 bR 16 (iF (mix (lo16 0 f) f k)) [] wr) (fun _ v4 _ => (32 - intOf v4).toNat)
  case atStart => exact ⟨0, rfl, rfl, by decide, by rw [mix_zero]; exact hP0⟩
  case round =>
    obtain ⟨k, rfl, rfl, hk, hX⟩ := hrel
    clear hP0
    by_cases hlt : k < 32
    · have d1 : wr.cell? ⟨b0, k, none⟩ = some (.int .i64 (f k)) := by rw [hX.icell hlt, mix_here]
      have d2 := hX.fr k
      have k1 : (k : Int) < 32 := by omega
      have hS := Hid.of (hX.iset (mix (lo16 0 f) f (k + 1)) k hlt ((f k + kry 0 f k) % 65536) (mix_put _ _ _) (mix_off _ _ _))
      have hC1 := Hid.of (show kry 0 f (k + 1) = (f k + kry 0 f k) / 65536 from rfl)
      have hb1 := HC.out.bd k hlt
      have hb2 := kry_col HC.out.bd k (by omega)
      have hkk := Hid.of hlt
      clear hX hlt hk
      generalize f k = x at *
      generalize kry 0 f k = c at *
      have e1 := Hid.of (show wrap64 (x + c) = x + c by unfold wrap64; omega)
      have e2 := Hid.of (step16 (v := x + c) (by omega))
      clear hb1 hb2
      go_wp2
      rw [e1.out, e2.out.1, e2.out.2]
      exact ⟨⟨k + 1, by simp, by rw [hC1.out], hkk.out, hS.out⟩, by have := hkk.out; simp [intOf]; omega⟩
    · obtain rfl : k = 32 := by omega
      have hY : KX w 32 b0 bR 16 (iF (lo16 0 f)) [] wr := hX.icongr (fun j hj => (mix_all _ _ hj).symm)
      clear hX hlt hk
      repeat ((fail_if_success (with_reducible show Code.wp _ (Code.region _ _ _) _ _ _)); go_step)
      refine wp_plain [.imm (.int .i64 ((32 : Nat) : Int)), .imm (.bool false)] (by kernel_rfl) (fun β => ?_) (fun β w2 hD => ?_)
      · refine Obs.cons (Ob.imm rfl (fun w => by kernel_rfl)) ?_
        refine Obs.cons (Ob.imm rfl (fun w => by kernel_rfl)) ?_
        exact Obs.nil
      replace hY := hY.grown hD.gr
      clear hD
      simp only [finAct, putAll, valsFrom, Plan.value, Act.put, List.setIfInBounds_toArray, List.set_cons_zero, List.set_cons_succ]
      repeat ((fail_if_success (with_reducible show Code.wp _ (Code.region _ _ _) _ _ _)); go_step)
      refine wp_plain [.box 45 (il 16 fun _ => 0)] (by kernel_rfl) (fun β => ?_) (fun β w3 hD => ?_)
      · refine Obs.cons (Ob.newz (il 16 fun _ => 0) rfl rfl zeroS) ?_
        exact Obs.nil
      obtain ⟨hf3, hr3⟩ := hD.bx 0 _ _ rfl
      have hb0 : b0 < w2.heap.size := block_lt_of_cell (hY.icell (by decide : 0 < 32))
      have hbR : bR < w2.heap.size := there_lt' hY.tr (by decide)
      have hP1 : KX w 16 (β 0) bR 16 (iF fun _ => 0) [(b0, il 32 (lo16 0 f))] w3 := ⟨fun j hj => cell_i hr3 hj, fun j => (hD.gr.2.1 _).trans (frozen_past hf3), fun z hz => by
          obtain rfl := List.mem_singleton.1 hz
          exact ⟨(hY.grown hD.gr).irange, (by show b0 ≠ β 0; omega)⟩, there_grown hY.tr hD.gr, by omega, Nat.le_trans hY.gw.2.2 hf3, hY.f2, grown_trans hY.gw hD.gr⟩
      clear hD hf3 hr3 hb0 hbR hY
      simp only [finAct, putAll, valsFrom, Plan.value, Act.put, List.setIfInBounds_toArray, List.set_cons_zero, List.set_cons_succ]
      generalize β 0 = bN at *
      go_wp2
      go_loopw [7] (fun v7 wr => ∃ k : Nat, v7 = .int .i64 (k : Int) ∧ k ≤ 16 ∧ KX w 16 bN bR 16 (iF (mix (fcol f) (fun _ => 0) k)) [(b0, il 32 (lo16 0 f))] wr) (fun v7 _ => (16 - intOf v7).toNat)
      case atStart => exact ⟨0, rfl, by decide, by rw [mix_zero]; exact hP1⟩
      case round =>
        obtain ⟨k, rfl, hk, hX⟩ := hrel
        clear hP1
        by_cases hlt : k < 16
        · have k1 : (k : Int) < 16 := by omega
          have HX := Hid.of (hX.grown (gdrew wr))
          have hkk := Hid.of hlt
          clear hX hk hlt
          go_wp2
          have hlt := hkk.out
          have hX := HX.out
          have hxa := cell_i (hX.arg b0 _ (List.mem_singleton.2 rfl)) (j := k) (by omega)
          have hxb := cell_i (hX.arg b0 _ (List.mem_singleton.2 rfl)) (j := k + 16) (by omega)
          have hx := lo16_in 0 f 32 k (by omega)
          have hy := lo16_in 0 f 32 (k + 16) (by omega)
          have hfc : fcol f k = lo16 0 f k + 38 * lo16 0 f (k + 16) := rfl
          generalize lo16 0 f k = x at hxa hx hfc
          generalize lo16 0 f (k + 16) = y at hxb hy hfc
          refine wp_loose_fin [.imm (.int .i64 (k : Int)), .imm (.int .i64 (k : Int)), .imm (.pointer (some ⟨b0, k, none⟩)), .val (.int .i64 x), .imm (.int .i64 (k : Int)), .imm (.int .i64 ((k + 16 : Nat) : Int)), .imm (.pointer (some ⟨b0, k + 16, none⟩)), .val (.int .i64 y), .imm (.int .i64 (38 * y)), .imm (.int .i64 (x + 38 * y)), .imm (.pointer (some ⟨bN, k, none⟩)), .fin] bN k (fun _ => [.int .i64 (x + 38 * y)]) (by kernel_rfl) (by kernel_rfl) (fun β => ?_) (fun β w4 hD => ?_)
          · refine Obs.cons (Ob.imm rfl (fun w => by kernel_rfl)) ?_
            refine Obs.cons (Ob.imm rfl (fun w => by kernel_rfl)) ?_
            refine Obs.cons (Ob.imm rfl (fun w => exec_idxW k (by omega) rfl (by kernel_rfl) (by kernel_rfl))) ?_
            refine Obs.cons (Ob.load1 b0 k rfl rfl (by kernel_rfl) (block_lt_of_cell hxa) hxa (fun w h => run_loadI w h)) ?_
            refine Obs.cons (Ob.imm rfl (fun w => by kernel_rfl)) ?_
            refine Obs.cons (Ob.imm rfl (fun w => exec_addI (k : Int) 16 _ rfl (by kernel_rfl) (by kernel_rfl) (by rw [IntKind.wrap_i64]; omega))) ?_
            refine Obs.cons (Ob.imm rfl (fun w => exec_idxW (k + 16) (by omega) rfl (by kernel_rfl) (by kernel_rfl))) ?_
            refine Obs.cons (Ob.load1 b0 (k + 16) rfl rfl (by kernel_rfl) (block_lt_of_cell hxb) hxb (fun w h => run_loadI w h)) ?_
            refine Obs.cons (Ob.imm rfl (fun w => exec_mulI' 38 y _ rfl (by kernel_rfl) (by kernel_rfl) (by rw [IntKind.wrap_i64]; omega))) ?_
            refine Obs.cons (Ob.imm rfl (fun w => exec_addI x (38 * y) _ rfl (by kernel_rfl) (by kernel_rfl) (by rw [IntKind.wrap_i64]; omega))) ?_
            refine Obs.cons (Ob.imm rfl (fun w => exec_idxS k hlt rfl (by kernel_rfl) (by kernel_rfl))) ?_
            refine Obs.cons (Ob.fin1 (.int .i64 (x + 38 * y)) rfl rfl (hX.cellthere hlt) rfl (by kernel_rfl) (by kernel_rfl) (fun w v0 h hf => run_storeI w v0 h hf)) ?_
            exact Obs.nil
          have hS := Hid.of ((hX.grown hD.gr).iset (mix (fcol f) (fun _ => 0) (k + 1)) k hlt (x + 38 * y) (by rw [mix_put, hfc]) (mix_off _ _ _))
          clear hD hX HX hxa hxb hx hy hfc
          simp only [finAct, putAll, valsFrom, Plan.value, Act.put, List.setIfInBounds_toArray, List.set_cons_zero, List.set_cons_succ]
          go_wp2
          go_roundw
          case rel => exact ⟨k + 1, by simp, hkk.out, hS.out⟩
          case measure => have := hkk.out; simp [intOf]; omega
        · obtain rfl : k = 16 := by omega
          have hY : KX w 16 bN bR 16 (iF (fcol f)) [(b0, il 32 (lo16 0 f))] wr := hX.icongr (fun j hj => (mix_all _ _ hj).symm)
          have hFS := FSx.start HC.out
          clear hX hlt hk
          go_wp2
          go_loopw [3, 8] (fun v3 v8 wr => ∃ (h : Nat → Int) (c : Int) (b : Bool), v3 = .int .i64 c ∧ v8 = .bool b ∧ KX w 16 bN bR 16 (iF h) [(b0, il 32 (lo16 0 f))] wr ∧ FSx N h c ∧ (b = false → c = 0 ∧ InS h 16)) (fun v3 v8 wr => if isTb v8 then mf (es (rdI wr bN) 16) (intOf v3) else 0)
          case atStart => exact ⟨fcol f, 0, true, rfl, rfl, hY, hFS, fun h => by cases h⟩
          case round =>
            obtain ⟨h, c, b, rfl, rfl, hX, hF, hi⟩ := hrel
            clear hY hFS
            cases b
            · obtain ⟨rfl, hin⟩ := hi rfl
              obtain ⟨m, hm, hmN, hmd⟩ := hF.done hin
              replace hX := hX.icongr (h := d16 m) hmd
              clear hF hi hin hmd
              repeat ((fail_if_success (with_reducible show Code.wp _ (Code.region _ _ _) _ _ _)); go_step)
              refine wp_plain [.imm (.bool false)] (by kernel_rfl) (fun β => ?_) (fun β w4 hD => ?_)
              · refine Obs.cons (Ob.imm rfl (fun w => by kernel_rfl)) ?_
                exact Obs.nil
              replace hX := hX.grown hD.gr
              clear hD
              simp only [finAct, putAll, valsFrom, Plan.value, Act.put, List.setIfInBounds_toArray, List.set_cons_zero, List.set_cons_succ]
              repeat ((fail_if_success (with_reducible show Code.wp _ (Code.region _ _ _) _ _ _)); go_step)
              have hGp := HG.out.grown hX.gw
              refine wp_plain_fin [.val (sn m), .val (sn (m % p)), .fin] bR 0 (fun _ => il 16 (d16 (m % p))) (by kernel_rfl) (fun β => ?_) (fun β w5 hD => ?_)
              · refine Obs.cons (Ob.load bN 0 (il 16 (d16 m)) rfl rfl (by kernel_rfl) hX.irange Tryd.underlying45 rfl (by rw [il_length]; exact infoS)) ?_
                refine Obs.cons (Ob.call 87 #[sn m] rfl (fun w => by kernel_rfl) (fun w hg => fit_r m hm w (hGp.grown hg))) ?_
                refine Obs.cons (Ob.fin rfl (by rw [il_length]; exact hX.tr) rfl (by kernel_rfl) (by kernel_rfl) (by rw [il_length]; exact infoS) (il_one _ _)) ?_
                exact Obs.nil
              replace hX := hX.grown hD.gr
              have hr := World.rangeAt_setCells_same w5 bR 0 (il 16 (d16 (m % p))) (by rw [il_length]; exact hX.tr)
              have hW := grown_setCells hX.f2 (il 16 (d16 (m % p))) 0 hX.gw
              clear hD
              simp only [finAct, putAll, valsFrom, Plan.value, Act.put, List.setIfInBounds_toArray, List.set_cons_zero, List.set_cons_succ]
              repeat go_step
              refine bodyPost_ret (v := sn (m % p)) (result_cells Tryd.results88 _ _ bR (il 16 (d16 (m % p))) ?hp hr Tryd.underlying45 rfl (by rw [il_length]; exact infoS)) ?hd ?_
              case hp => rfl
              case hd => rfl
              exact ⟨by rw [hmN], hW⟩
            · obtain ⟨wr0, eW⟩ : ∃ W1, W1 = wr := ⟨_, rfl⟩
              subst eW
              have hFF := Hid.of hF
              have hXX := Hid.of hX
              have hcb := hF.cb
              have e0 := Hid.of (show wrap64 (38 * c) = 38 * c by unfold wrap64; omega)
              clear hX hF hi hcb
              go_wp2
              rw [e0.out]
              go_loopw [3, 9] (fun v3 v9 wr' => ∃ k : Nat, v9 = .int .i64 (k : Int) ∧ v3 = .int .i64 (kry (38 * c) h k) ∧ k ≤ 16 ∧ KX w 16 bN bR 16 (iF (mix (lo16 (38 * c) h) h k)) [(b0, il 32 (lo16 0 f))] wr') (fun _ v9 _ => (16 - intOf v9).toNat)
              case atStart => exact ⟨0, rfl, rfl, by decide, by rw [mix_zero]; exact hXX.out⟩
              case round =>
                obtain ⟨k, rfl, rfl, hk, hX⟩ := hrel
                by_cases hlt : k < 16
                · have d1 : wr.cell? ⟨bN, k, none⟩ = some (.int .i64 (h k)) := by rw [hX.icell hlt, mix_here]
                  have d2 := hX.fr k
                  have k1 : (k : Int) < 16 := by omega
                  have hS := Hid.of (hX.iset (mix (lo16 (38 * c) h) h (k + 1)) k hlt ((h k + kry (38 * c) h k) % 65536) (mix_put _ _ _) (mix_off _ _ _))
                  have hC1 := Hid.of (show kry (38 * c) h (k + 1) = (h k + kry (38 * c) h k) / 65536 from rfl)
                  have hb1 := hFF.out.bd k hlt
                  have hb2 := kry_fold hFF.out.bd hFF.out.cb k (by omega)
                  have hkk := Hid.of hlt
                  clear hX hlt hk
                  generalize h k = x at *
                  generalize kry (38 * c) h k = c1 at *
                  have e1 := Hid.of (show wrap64 (x + c1) = x + c1 by unfold wrap64; omega)
                  have e2 := Hid.of (step16 (v := x + c1) (by omega))
                  clear hb1 hb2
                  go_wp2
                  rw [e1.out, e2.out.1, e2.out.2]
                  exact ⟨⟨k + 1, by simp, by rw [hC1.out], hkk.out, hS.out⟩, by have := hkk.out; simp [intOf]; omega⟩
                · obtain rfl : k = 16 := by omega
                  have hY := Hid.of (show KX w 16 bN bR 16 (iF (lo16 (38 * c) h)) [(b0, il 32 (lo16 0 f))] wr from hX.icongr (fun j hj => (mix_all _ _ hj).symm))
                  have hN := Hid.of hFF.out.next
                  have hlo := Hid.of (lo16_in (38 * c) h 16)
                  have hms := Hid.of (show kry (38 * c) h 16 ≠ 0 → mf (es (lo16 (38 * c) h) 16) (kry (38 * c) h 16) < mf (es h 16) c from mf_less hFF.out)
                  have hcb := hFF.out.next.cb
                  clear hX hlt hk
                  generalize kry (38 * c) h 16 = d at *
                  have hcd := Hid.of hcb
                  clear hcb
                  go_wp2
                  refine ⟨⟨lo16 (38 * c) h, d, decide (0 < d), rfl, rfl, hY.out, hN.out, fun hb => ⟨by have := of_decide_eq_false hb; have := hcd.out; omega, hlo.out⟩⟩, ?_⟩
                  rw [hY.out.rd, hXX.out.rd]
                  show (if decide (0 < d) = true then mf _ d else 0) < mf _ c
                  by_cases hd : d = 0
                  · rw [hd, if_neg (by decide)]
                    unfold mf
                    split <;> omega
                  · rw [if_pos (decide_eq_true (by have := hcd.out; omega))]
                    exact hms.out hd

end Go.Proofs.YtkegcilcapnpdaaDoor
