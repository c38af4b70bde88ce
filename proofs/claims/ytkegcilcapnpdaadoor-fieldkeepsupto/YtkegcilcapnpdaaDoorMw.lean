import Derived.Test.YtkegcilcapnpdaaDoorMv
namespace Go.Proofs.YtkegcilcapnpdaaDoor
open Go.RowKit Go.Shelf FieldNum

theorem d16_small {n : Nat} (hn : n < 65536) (j : Nat) : d16 n j = if j = 0 then (n : Int) else 0 := by
  unfold d16
  by_cases h : j = 0
  · subst h; rw [if_pos rfl, Nat.pow_zero, Nat.div_one, Nat.mod_eq_of_lt hn]
  · rw [if_neg h, Nat.div_eq_of_lt (Nat.lt_of_lt_of_le hn (by
      have : 65536 ^ 1 ≤ 65536 ^ j := Nat.pow_le_pow_right (by decide) (by omega)
      simpa using this))]
    rfl
set_option maxRecDepth 100000 in
set_option maxHeartbeats 4000000 in
theorem Small_r (n : Nat) (hn : n < 65536) (m : Int) (hm : m = (n : Int)) (w : World) : Calls Tryd.prog 39 #[.int .i64 m] w fun e w' => e = .returned (sn n) ∧ Grown w w' := by
  subst hm
  go_enter Tryd.func39, Tryd.ntmps39
  repeat ((fail_if_success (with_reducible show Code.wp _ (Code.region _ _ _) _ _ _)); go_step)
  refine wp_plain [.new 45 16] (by kernel_rfl) (fun β => ?_) (fun β w1 hD => ?_)
  · refine Obs.cons (Ob.new _ rfl rfl zeroS (by simp [il_length])) ?_
    exact Obs.nil
  obtain ⟨hf2, ht2⟩ := hD.nw 0 _ _ rfl
  have hW := hD.gr
  clear hD
  simp only [finAct, putAll, valsFrom, Plan.value, Act.put, List.setIfInBounds_toArray, List.set_cons_zero, List.set_cons_succ]
  generalize β 0 = bR at *
  repeat ((fail_if_success (with_reducible show Code.wp _ (Code.region _ _ _) _ _ _)); go_step)
  refine wp_plain [.box 45 (il 16 fun _ => 0)] (by kernel_rfl) (fun β => ?_) (fun β w2 hD => ?_)
  · refine Obs.cons (Ob.newz (il 16 fun _ => 0) rfl rfl zeroS) ?_
    exact Obs.nil
  obtain ⟨hf3, hr3⟩ := hD.bx 0 _ _ rfl
  have hb2 : bR < w1.heap.size := there_lt' ht2 (by decide)
  have hP0 : KX w 16 (β 0) bR 16 (iF fun _ => 0) [] w2 := ⟨fun j hj => cell_i hr3 hj, fun j => (hD.gr.2.1 _).trans (frozen_past hf3), (fun q hq => by cases hq),
      there_grown ht2 hD.gr, by omega, Nat.le_trans hW.2.2 hf3, hf2, grown_trans hW hD.gr⟩
  clear hD hf2 ht2 hW hf3 hr3 hb2
  simp only [finAct, putAll, valsFrom, Plan.value, Act.put, List.setIfInBounds_toArray, List.set_cons_zero, List.set_cons_succ]
  generalize β 0 = bG at *
  repeat ((fail_if_success (with_reducible show Code.wp _ (Code.region _ _ _) _ _ _)); go_step)
  refine wp_plain_fin [.imm (.int .i64 (n : Int)), .imm (.pointer (some ⟨bG, 0, none⟩)), .fin] bG 0 (fun _ => [.int .i64 (n : Int)]) (by kernel_rfl) (fun β => ?_) (fun β w3 hD => ?_)
  · refine Obs.cons (Ob.imm rfl (fun w => by kernel_rfl)) ?_
    refine Obs.cons (Ob.imm rfl (fun w => exec_idxS 0 (by decide) rfl (by kernel_rfl) (by kernel_rfl))) ?_
    refine Obs.cons (Ob.fin1 (.int .i64 (n : Int)) rfl rfl (hP0.cellthere (by decide)) rfl (by kernel_rfl) (by kernel_rfl) (fun w v0 h hf => run_storeI w v0 h hf)) ?_
    exact Obs.nil
  have hX := (hP0.grown hD.gr).iset (d16 n) 0 (by decide) (n : Int) (by rw [d16_small hn, if_pos rfl]) (fun j hj => by rw [d16_small hn, if_neg hj])
  clear hD hP0
  simp only [finAct, putAll, valsFrom, Plan.value, Act.put, List.setIfInBounds_toArray, List.set_cons_zero, List.set_cons_succ]
  have hr := hX.irange
  have ht := hX.tr
  have hf := hX.f2
  have hW := hX.gw
  clear hX
  go_wp2_with (with_reducible show wpList _ _ _ ({ dst := _, op := Op.load 45 _, type := _, pos := _, after := _, guard := _ } :: _) _ _; refine Shut.out ?_)
  show wpList _ _ _ _ _ _
  refine wpList_load_mid rfl 45 _ rfl bG 0 rfl (il 16 (d16 n)) _ hr Tryd.underlying45 rfl (by rw [il_length]; exact infoS) ?_
  simp only [Act.put, List.setIfInBounds_toArray, List.set_cons_zero, List.set_cons_succ]
  refine wpList_store_mid rfl 45 _ _ rfl bR 0 (il 16 (d16 n)).toArray rfl rfl (by rw [List.size_toArray, il_length]; exact ht) (by rw [List.size_toArray, il_length]; exact infoS) (all_oneCell_toArray (il_one _ _)) ?_
  simp only [Act.put]
  apply wpList_nil
  repeat go_step
  refine bodyPost_ret (v := sn n) (result_cells Tryd.results39 _ _ bR (il 16 (d16 n)) ?hp (World.rangeAt_setCells_same _ _ _ _ (by rw [il_length]; exact ht)) Tryd.underlying45 rfl (by rw [il_length]; exact infoS)) ?hd ?_
  case hp => rfl
  case hd => rfl
  exact ⟨rfl, grown_setCells hf _ _ hW⟩

set_option maxRecDepth 100000 in
set_option maxHeartbeats 4000000 in
theorem half_r (a : Nat) (ha : a < S256) (w : World) : Calls Tryd.prog 93 #[sn a] w fun e w' => e = .returned (sn (a / 2)) ∧ Grown w w' := by
  go_enter Tryd.func93, Tryd.ntmps93
  repeat ((fail_if_success (with_reducible show Code.wp _ (Code.region _ _ _) _ _ _)); go_step)
  refine wp_plain [.box 45 (il 16 (d16 a)), .new 45 16] (by kernel_rfl) (fun β => ?_) (fun β w1 hD => ?_)
  · refine Obs.cons (Ob.box rfl rfl (by kernel_rfl)) ?_
    refine Obs.cons (Ob.new _ rfl rfl zeroS (by simp [il_length])) ?_
    exact Obs.nil
  have hr0 := (hD.bx 0 _ _ rfl).2
  obtain ⟨hf2, ht2⟩ := hD.nw 1 _ _ rfl
  have hW := hD.gr
  clear hD
  simp only [finAct, putAll, valsFrom, Plan.value, Act.put, List.setIfInBounds_toArray, List.set_cons_zero, List.set_cons_succ]
  generalize β 0 = b0 at *
  generalize β (0 + 1) = bR at *
  repeat ((fail_if_success (with_reducible show Code.wp _ (Code.region _ _ _) _ _ _)); go_step)
  refine wp_plain [.box 45 (il 16 fun _ => 0)] (by kernel_rfl) (fun β => ?_) (fun β w2 hD => ?_)
  · refine Obs.cons (Ob.newz (il 16 fun _ => 0) rfl rfl zeroS) ?_
    exact Obs.nil
  obtain ⟨hf3, hr3⟩ := hD.bx 0 _ _ rfl
  have hb2 : bR < w1.heap.size := there_lt' ht2 (by decide)
  have hP0 : KX w 16 (β 0) bR 16 (iF fun _ => 0) [(b0, il 16 (d16 a))] w2 := ⟨fun j hj => cell_i hr3 hj, fun j => (hD.gr.2.1 _).trans (frozen_past hf3), fun q hq => by
      obtain rfl := List.mem_singleton.1 hq
      exact ⟨rangeAt_grown hr0 hD.gr, ne_of_freshI hr0 (by decide) hf3⟩,
      there_grown ht2 hD.gr, by omega, Nat.le_trans hW.2.2 hf3, hf2, grown_trans hW hD.gr⟩
  clear hD hf2 ht2 hW hf3 hr3 hb2 hr0
  simp only [finAct, putAll, valsFrom, Plan.value, Act.put, List.setIfInBounds_toArray, List.set_cons_zero, List.set_cons_succ]
  generalize β 0 = bG at *
  go_wp2
  go_loopw [4, 5] (fun v4 v5 wr => ∃ k : Nat, v5 = .int .i64 ((k : Int) - 1) ∧ v4 = .int .i64 (d16 a k % 2) ∧ k ≤ 16 ∧ KX w 16 bG bR 16 (iF (xim (d16 (a / 2)) (fun _ => 0) k)) [(b0, il 16 (d16 a))] wr) (fun _ v5 _ => (intOf v5 + 1).toNat)
  case atStart => exact ⟨16, rfl, by rw [d16_top ha]; rfl, by decide, hP0.icongr (fun j hj => xim_all _ _ hj)⟩
  case round =>
    obtain ⟨k, rfl, rfl, hk, hX⟩ := hrel
    clear hP0
    cases k with
    | zero =>
      have hr := (hX.icongr (h := d16 (a / 2)) (fun j hj => by rw [xim_zero])).irange
      have ht := hX.tr
      have hf := hX.f2
      have hW := hX.gw
      clear hX hk
      repeat ((fail_if_success (with_reducible show Code.wp _ (Code.region _ _ _) _ _ _)); go_step)
      refine wp_plain [.imm (.int .i64 (((0 : Nat) : Int) - 1)), .imm (.bool false)] (by kernel_rfl) (fun β => ?_) (fun β w3 hD => ?_)
      · refine Obs.cons (Ob.imm rfl (fun w => by kernel_rfl)) ?_
        refine Obs.cons (Ob.imm rfl (fun w => exec_geqZ (((0 : Nat) : Int) - 1) 0 rfl (by kernel_rfl) (by kernel_rfl) false (by decide))) ?_
        exact Obs.nil
      replace hr := rangeAt_grown hr hD.gr
      replace ht := there_grown ht hD.gr
      replace hW := grown_trans hW hD.gr
      clear hD
      simp only [finAct, putAll, valsFrom, Plan.value, Act.put, List.setIfInBounds_toArray, List.set_cons_zero, List.set_cons_succ]
      go_wp2_with (with_reducible show wpList _ _ _ ({ dst := _, op := Op.load 45 _, type := _, pos := _, after := _, guard := _ } :: _) _ _; refine Shut.out ?_)
      show wpList _ _ _ _ _ _
      refine wpList_load_mid rfl 45 _ rfl bG 0 rfl (il 16 (d16 (a / 2))) _ hr Tryd.underlying45 rfl (by rw [il_length]; exact infoS) ?_
      simp only [Act.put, List.setIfInBounds_toArray, List.set_cons_zero, List.set_cons_succ]
      refine wpList_store_mid rfl 45 _ _ rfl bR 0 (il 16 (d16 (a / 2))).toArray rfl rfl (by rw [List.size_toArray, il_length]; exact ht) (by rw [List.size_toArray, il_length]; exact infoS) (all_oneCell_toArray (il_one _ _)) ?_
      simp only [Act.put]
      apply wpList_nil
      repeat go_step
      refine bodyPost_ret (v := sn (a / 2)) (result_cells Tryd.results93 _ _ bR (il 16 (d16 (a / 2))) ?hp (World.rangeAt_setCells_same _ _ _ _ (by rw [il_length]; exact ht)) Tryd.underlying45 rfl (by rw [il_length]; exact infoS)) ?hd ?_
      case hp => rfl
      case hd => rfl
      exact ⟨rfl, grown_setCells hf _ _ hW⟩
    | succ i =>
      have hi : i < 16 := by omega
      rw [show ((i + 1 : Nat) : Int) - 1 = (i : Int) by omega]
      repeat ((fail_if_success (with_reducible show Code.wp _ (Code.region _ _ _) _ _ _)); go_step)
      refine wp_plain [.imm (.int .i64 (i : Int)), .imm (.bool true)] (by kernel_rfl) (fun β => ?_) (fun β w3 hD => ?_)
      · refine Obs.cons (Ob.imm rfl (fun w => by kernel_rfl)) ?_
        refine Obs.cons (Ob.imm rfl (fun w => exec_geqZ (i : Int) 0 rfl (by kernel_rfl) (by kernel_rfl) true (decide_eq_true (by omega)))) ?_
        exact Obs.nil
      replace hX := hX.grown hD.gr
      clear hD
      simp only [finAct, putAll, valsFrom, Plan.value, Act.put, List.setIfInBounds_toArray, List.set_cons_zero, List.set_cons_succ]
      repeat ((fail_if_success (with_reducible show Code.wp _ (Code.region _ _ _) _ _ _)); go_step)
      have hxa := cell_i (hX.arg b0 _ (List.mem_singleton.2 rfl)) hi
      have hx := d16_in a 16 i hi
      have hd := half_dig a i
      obtain ⟨x, ex⟩ : ∃ x, x = d16 a i := ⟨_, rfl⟩
      obtain ⟨c, ec⟩ : ∃ c, c = d16 a (i + 1) % 2 := ⟨_, rfl⟩
      have hc : 0 ≤ c ∧ c < 2 := by rw [ec]; omega
      rw [← ex] at hxa hx hd
      rw [← ec] at hd
      rw [← ec]
      have hn2 : d16 a i % 2 = (c * 65536 + x) % 2 := by rw [← ex]; omega
      clear ec ex
      refine wp_plain [.imm (.int .i64 c), .imm (.int .i64 (c * 65536)), .imm (.int .i64 (i : Int)), .imm (.pointer (some ⟨b0, i, none⟩)), .val (.int .i64 x), .imm (.int .i64 (c * 65536 + x)), .imm (.int .i64 (c * 65536 + x))] (by kernel_rfl) (fun β => ?_) (fun β w4 hD => ?_)
      · refine Obs.cons (Ob.imm rfl (fun w => by kernel_rfl)) ?_
        refine Obs.cons (Ob.imm rfl (fun w => exec_mulI' c 65536 _ rfl (by kernel_rfl) (by kernel_rfl) (by rw [IntKind.wrap_i64]; omega))) ?_
        refine Obs.cons (Ob.imm rfl (fun w => by kernel_rfl)) ?_
        refine Obs.cons (Ob.imm rfl (fun w => exec_idxS i hi rfl (by kernel_rfl) (by kernel_rfl))) ?_
        refine Obs.cons (Ob.load1 b0 i rfl rfl (by kernel_rfl) (block_lt_of_cell hxa) hxa (fun w h => run_loadI w h)) ?_
        refine Obs.cons (Ob.imm rfl (fun w => exec_addI (c * 65536) x _ rfl (by kernel_rfl) (by kernel_rfl) (by rw [IntKind.wrap_i64]; omega))) ?_
        refine Obs.cons (Ob.imm rfl (fun w => by kernel_rfl)) ?_
        exact Obs.nil
      replace hX := hX.grown hD.gr
      clear hD hxa
      simp only [finAct, putAll, valsFrom, Plan.value, Act.put, List.setIfInBounds_toArray, List.set_cons_zero, List.set_cons_succ]
      repeat ((fail_if_success (with_reducible show Code.wp _ (Code.region _ _ _) _ _ _)); go_step)
      obtain ⟨X, eX⟩ : ∃ X, X = c * 65536 + x := ⟨_, rfl⟩
      rw [← eX] at hd hn2
      rw [← eX]
      have hXb : 0 ≤ X ∧ X < 131072 := by omega
      clear eX hx hc
      refine wp_plain_fin [.imm (.int .i64 (i : Int)), .imm (.int .i64 X), .imm (.int .i64 (X / 2)), .imm (.pointer (some ⟨bG, i, none⟩)), .fin] bG i (fun _ => [.int .i64 (X / 2)]) (by kernel_rfl) (fun β => ?_) (fun β w5 hD => ?_)
      · refine Obs.cons (Ob.imm rfl (fun w => by kernel_rfl)) ?_
        refine Obs.cons (Ob.imm rfl (fun w => by kernel_rfl)) ?_
        refine Obs.cons (Ob.imm rfl (fun w => exec_quoZ X 2 _ (by decide) (by omega) (by omega) rfl (by kernel_rfl) (by kernel_rfl) rfl)) ?_
        refine Obs.cons (Ob.imm rfl (fun w => exec_idxS i hi rfl (by kernel_rfl) (by kernel_rfl))) ?_
        refine Obs.cons (Ob.fin1 (.int .i64 (X / 2)) rfl rfl (hX.cellthere hi) rfl (by kernel_rfl) (by kernel_rfl) (fun w v0 h hf => run_storeI w v0 h hf)) ?_
        exact Obs.nil
      replace hX := (hX.grown hD.gr).iset (xim (d16 (a / 2)) (fun _ => 0) i) i hi (X / 2) (by rw [xim_put, hd]) (fun j hj => xim_off _ _ _ _ hj)
      clear hD hd
      simp only [finAct, putAll, valsFrom, Plan.value, Act.put, List.setIfInBounds_toArray, List.set_cons_zero, List.set_cons_succ]
      repeat ((fail_if_success (with_reducible show Code.wp _ (Code.region _ _ _) _ _ _)); go_step)
      refine wp_plain [.imm (.int .i64 X), .imm (.int .i64 (X % 2)), .imm (.int .i64 (X % 2))] (by kernel_rfl) (fun β => ?_) (fun β w6 hD => ?_)
      · refine Obs.cons (Ob.imm rfl (fun w => by kernel_rfl)) ?_
        refine Obs.cons (Ob.imm rfl (fun w => exec_remZ X 2 _ (by decide) (by omega) rfl (by kernel_rfl) (by kernel_rfl) rfl)) ?_
        refine Obs.cons (Ob.imm rfl (fun w => by kernel_rfl)) ?_
        exact Obs.nil
      have hS := Hid.of (hX.grown hD.gr)
      have hnn := Hid.of hn2
      have hii := Hid.of hi
      have eL := Hid.of (show wrap64 ((i : Int) - 1) = (i : Int) - 1 by unfold wrap64; omega)
      clear hD hX hn2 hXb hi hk
      simp only [finAct, putAll, valsFrom, Plan.value, Act.put, List.setIfInBounds_toArray, List.set_cons_zero, List.set_cons_succ]
      go_wp2
      rw [eL.out]
      exact ⟨⟨i, rfl, by rw [hnn.out], by have := hii.out; omega, hS.out⟩, by simp [intOf]⟩

end Go.Proofs.YtkegcilcapnpdaaDoor

namespace Go.Proofs.YtkegcilcapnpdaaDoor
open Go.RowKit Go.Shelf FieldNum

set_option maxRecDepth 100000 in
set_option maxHeartbeats 4000000 in
theorem halfMod_q (a q : Nat) (haq : a + q < S256) (w : World) (hpr : w.rangeAt 1 0 (il 16 (d16 q))) : Calls Tryd.prog 94 #[sn a] w fun e w' => e = .returned (sn (if a % 2 = 0 then a / 2 else (a + q) / 2)) ∧ Grown w w' := by
  go_enter Tryd.func94, Tryd.ntmps94
  repeat ((fail_if_success (with_reducible show Code.wp _ (Code.region _ _ _) _ _ _)); go_step)
  refine wp_plain [.box 45 (il 16 (d16 a)), .new 45 16] (by kernel_rfl) (fun β => ?_) (fun β w1 hD => ?_)
  · refine Obs.cons (Ob.box rfl rfl (by kernel_rfl)) ?_
    refine Obs.cons (Ob.new _ rfl rfl zeroS (by simp [il_length])) ?_
    exact Obs.nil
  have hX : KX w 16 (β 0) (β 1) 16 (iF (d16 a)) [(1, il 16 (d16 q))] w1 := ⟨fun j hj => cell_i (hD.bx 0 _ _ rfl).2 hj, fun j => (hD.gr.2.1 _).trans (frozen_past (hD.bx 0 _ _ rfl).1), fun z hz => by
      obtain rfl := List.mem_singleton.1 hz
      exact ⟨rangeAt_grown hpr hD.gr, ne_of_freshI hpr (by decide) (hD.bx 0 _ _ rfl).1⟩, (hD.nw 1 _ _ rfl).2, hD.ap 0 1 _ _ rfl rfl rfl rfl (by decide), (hD.bx 0 _ _ rfl).1, (hD.nw 1 _ _ rfl).1, hD.gr⟩
  clear hD hpr
  simp only [finAct, putAll, valsFrom, Plan.value, Act.put, List.setIfInBounds_toArray, List.set_cons_zero, List.set_cons_succ]
  generalize β 0 = b0 at *
  generalize β (0 + 1) = bR at *
  repeat ((fail_if_success (with_reducible show Code.wp _ (Code.region _ _ _) _ _ _)); go_step)
  have hxa := hX.icell (j := 0) (by decide)
  have hod := d16_odd a
  have hx := d16_in a 16 0 (by decide)
  obtain ⟨x, ex⟩ : ∃ x, x = d16 a 0 := ⟨_, rfl⟩
  rw [← ex] at hxa hod hx
  clear ex
  by_cases he : a % 2 = 0
  · refine wp_plain [.imm (.pointer (some ⟨b0, 0, none⟩)), .val (.int .i64 x), .imm (.int .i64 (x % 2)), .imm (.bool true)] (by kernel_rfl) (fun β => ?_) (fun β w2 hD => ?_)
    · refine Obs.cons (Ob.imm rfl (fun w => exec_idxS 0 (by decide) rfl (by kernel_rfl) (by kernel_rfl))) ?_
      refine Obs.cons (Ob.load1 b0 0 rfl rfl (by kernel_rfl) (block_lt_of_cell hxa) hxa (fun w h => run_loadI w h)) ?_
      refine Obs.cons (Ob.imm rfl (fun w => exec_remZ x 2 _ (by decide) (by omega) rfl (by kernel_rfl) (by kernel_rfl) rfl)) ?_
      refine Obs.cons (Ob.imm rfl (fun w => exec_eqlI rfl (x % 2) 0 (by kernel_rfl) (by kernel_rfl) true (decide_eq_true (by omega)))) ?_
      exact Obs.nil
    replace hX := hX.grown hD.gr
    clear hD hxa
    simp only [finAct, putAll, valsFrom, Plan.value, Act.put, List.setIfInBounds_toArray, List.set_cons_zero, List.set_cons_succ]
    repeat ((fail_if_success (with_reducible show Code.wp _ (Code.region _ _ _) _ _ _)); go_step)
    refine wp_plain_fin [.val (sn (a)), .val (sn (a / 2)), .fin] bR 0 (fun _ => il 16 (d16 (a / 2))) (by kernel_rfl) (fun β => ?_) (fun β w3 hD => ?_)
    · refine Obs.cons (Ob.load b0 0 (il 16 (d16 (a))) rfl rfl (by kernel_rfl) hX.irange Tryd.underlying45 rfl (by rw [il_length]; exact infoS)) ?_
      refine Obs.cons (Ob.call 93 #[sn (a)] rfl (fun w => by kernel_rfl) (fun w _ => half_r (a) (by omega) w)) ?_
      refine Obs.cons (Ob.fin rfl (by rw [il_length]; exact hX.tr) rfl (by kernel_rfl) (by kernel_rfl) (by rw [il_length]; exact infoS) (il_one _ _)) ?_
      exact Obs.nil
    replace hX := hX.grown hD.gr
    have hr := World.rangeAt_setCells_same w3 bR 0 (il 16 (d16 (a / 2))) (by rw [il_length]; exact hX.tr)
    have hW := grown_setCells hX.f2 (il 16 (d16 (a / 2))) 0 hX.gw
    clear hD
    simp only [finAct, putAll, valsFrom, Plan.value, Act.put, List.setIfInBounds_toArray, List.set_cons_zero, List.set_cons_succ]
    repeat go_step
    refine bodyPost_ret (v := sn (a / 2)) (result_cells Tryd.results94 _ _ bR (il 16 (d16 (a / 2))) ?hp hr Tryd.underlying45 rfl (by rw [il_length]; exact infoS)) ?hd ?_
    case hp => rfl
    case hd => rfl
    exact ⟨by rw [if_pos he], hW⟩
  · refine wp_plain [.imm (.pointer (some ⟨b0, 0, none⟩)), .val (.int .i64 x), .imm (.int .i64 (x % 2)), .imm (.bool false)] (by kernel_rfl) (fun β => ?_) (fun β w2 hD => ?_)
    · refine Obs.cons (Ob.imm rfl (fun w => exec_idxS 0 (by decide) rfl (by kernel_rfl) (by kernel_rfl))) ?_
      refine Obs.cons (Ob.load1 b0 0 rfl rfl (by kernel_rfl) (block_lt_of_cell hxa) hxa (fun w h => run_loadI w h)) ?_
      refine Obs.cons (Ob.imm rfl (fun w => exec_remZ x 2 _ (by decide) (by omega) rfl (by kernel_rfl) (by kernel_rfl) rfl)) ?_
      refine Obs.cons (Ob.imm rfl (fun w => exec_eqlI rfl (x % 2) 0 (by kernel_rfl) (by kernel_rfl) false (decide_eq_false (by omega)))) ?_
      exact Obs.nil
    replace hX := hX.grown hD.gr
    clear hD hxa
    simp only [finAct, putAll, valsFrom, Plan.value, Act.put, List.setIfInBounds_toArray, List.set_cons_zero, List.set_cons_succ]
    repeat ((fail_if_success (with_reducible show Code.wp _ (Code.region _ _ _) _ _ _)); go_step)
    clear hod hx
    have hgb : ∀ j, j < 16 → 0 ≤ d16 a j + d16 q j ∧ d16 a j + d16 q j < 131072 := fun j hj => by have := d16_in a 16 j hj; have := d16_in q 16 j hj; omega
    have HB := Hid.of hgb
    have HA := Hid.of (And.intro haq he)
    clear hgb haq he
    go_wp2
    go_loopw [3, 4] (fun v3 v4 wr => ∃ k : Nat, v4 = .int .i64 (k : Int) ∧ v3 = .int .i64 (kry 0 (fun j => d16 a j + d16 q j) k) ∧ k ≤ 16 ∧ KX w 16 b0 bR 16 (iF (mix (lo16 0 (fun j => d16 a j + d16 q j)) (d16 a) k)) [(1, il 16 (d16 q))] wr) (fun _ v4 _ => (16 - intOf v4).toNat)
    case atStart => exact ⟨0, rfl, rfl, by decide, by rw [mix_zero]; exact hX⟩
    case round =>
      clear hX
      obtain ⟨k, rfl, rfl, hk, hX⟩ := hrel
      by_cases hlt : k < 16
      · repeat ((fail_if_success (with_reducible show Code.wp _ (Code.region _ _ _) _ _ _)); go_step)
        refine wp_plain [.imm (.int .i64 (k : Int)), .imm (.bool true)] (by kernel_rfl) (fun β => ?_) (fun β w3 hD => ?_)
        · refine Obs.cons (Ob.imm rfl (fun w => by kernel_rfl)) ?_
          refine Obs.cons (Ob.imm rfl (fun w => exec_lssI rfl (k : Int) 16 (by kernel_rfl) (by kernel_rfl) true (decide_eq_true (by omega)))) ?_
          exact Obs.nil
        replace hX := (hX.grown hD.gr).grown (gdrew w3)
        clear hD
        simp only [finAct, putAll, valsFrom, Plan.value, Act.put, List.setIfInBounds_toArray, List.set_cons_zero, List.set_cons_succ]
        repeat ((fail_if_success (with_reducible show Code.wp _ (Code.region _ _ _) _ _ _)); go_step)
        have hxa : w3.drew.cell? ⟨b0, k, none⟩ = some (.int .i64 (d16 a k)) := by rw [hX.icell hlt, mix_here]
        have hxb := cell_i (hX.arg 1 _ (List.mem_singleton.2 rfl)) hlt
        have hb1 := HB.out k hlt
        have hb2 := kry_add HB.out k (by omega)
        have hix := d16_in a 16 k hlt
        have hiy := d16_in q 16 k hlt
        have hlo : lo16 0 (fun j => d16 a j + d16 q j) k = (d16 a k + d16 q k + kry 0 (fun j => d16 a j + d16 q j) k) % 65536 := rfl
        have hkn : kry 0 (fun j => d16 a j + d16 q j) (k + 1) = (d16 a k + d16 q k + kry 0 (fun j => d16 a j + d16 q j) k) / 65536 := rfl
        obtain ⟨x, ex⟩ : ∃ x, x = d16 a k := ⟨_, rfl⟩
        obtain ⟨y, ey⟩ : ∃ y, y = d16 q k := ⟨_, rfl⟩
        obtain ⟨c, ec⟩ : ∃ c, c = kry 0 (fun j => d16 a j + d16 q j) k := ⟨_, rfl⟩
        rw [← ex] at hxa hb1 hix hlo hkn
        rw [← ey] at hxb hb1 hiy hlo hkn
        rw [← ec] at hb2 hlo hkn
        rw [← ec]
        clear ex ey ec
        refine wp_loose [.imm (.int .i64 (k : Int)), .imm (.pointer (some ⟨b0, k, none⟩)), .val (.int .i64 x), .imm (.int .i64 (k : Int)), .imm (.pointer (some ⟨1, k, none⟩)), .val (.int .i64 y), .imm (.int .i64 (x + y)), .imm (.int .i64 c), .imm (.int .i64 (x + y + c)), .imm (.int .i64 (x + y + c))] (by kernel_rfl) (by kernel_rfl) (fun β => ?_) (fun β w4 hD => ?_)
        · refine Obs.cons (Ob.imm rfl (fun w => by kernel_rfl)) ?_
          refine Obs.cons (Ob.imm rfl (fun w => exec_idxS k hlt rfl (by kernel_rfl) (by kernel_rfl))) ?_
          refine Obs.cons (Ob.load1 b0 k rfl rfl (by kernel_rfl) (block_lt_of_cell hxa) hxa (fun w h => run_loadI w h)) ?_
          refine Obs.cons (Ob.imm rfl (fun w => by kernel_rfl)) ?_
          refine Obs.cons (Ob.imm rfl (fun w => exec_idxP k hlt rfl (by kernel_rfl) (by kernel_rfl))) ?_
          refine Obs.cons (Ob.load1 1 k rfl rfl (by kernel_rfl) (block_lt_of_cell hxb) hxb (fun w h => run_loadI w h)) ?_
          refine Obs.cons (Ob.imm rfl (fun w => exec_addI x y _ rfl (by kernel_rfl) (by kernel_rfl) (by rw [IntKind.wrap_i64]; omega))) ?_
          refine Obs.cons (Ob.imm rfl (fun w => by kernel_rfl)) ?_
          refine Obs.cons (Ob.imm rfl (fun w => exec_addI (x + y) c _ rfl (by kernel_rfl) (by kernel_rfl) (by rw [IntKind.wrap_i64]; omega))) ?_
          refine Obs.cons (Ob.imm rfl (fun w => by kernel_rfl)) ?_
          exact Obs.nil
        replace hX := hX.grown hD.gr
        clear hD hxa hxb
        simp only [finAct, putAll, valsFrom, Plan.value, Act.put, List.setIfInBounds_toArray, List.set_cons_zero, List.set_cons_succ]
        repeat ((fail_if_success (with_reducible show Code.wp _ (Code.region _ _ _) _ _ _)); go_step)
        obtain ⟨X, eX⟩ : ∃ X, X = x + y + c := ⟨_, rfl⟩
        have hXb : 0 ≤ X ∧ X < 1000000 := by omega
        rw [← eX] at hlo hkn
        rw [← eX]
        clear eX hb1 hb2 hix hiy
        refine wp_plain_fin [.imm (.int .i64 (k : Int)), .imm (.int .i64 X), .imm (.int .i64 (X % 65536)), .imm (.pointer (some ⟨b0, k, none⟩)), .fin] b0 k (fun _ => [.int .i64 (X % 65536)]) (by kernel_rfl) (fun β => ?_) (fun β w5 hD => ?_)
        · refine Obs.cons (Ob.imm rfl (fun w => by kernel_rfl)) ?_
          refine Obs.cons (Ob.imm rfl (fun w => by kernel_rfl)) ?_
          refine Obs.cons (Ob.imm rfl (fun w => exec_remZ X 65536 _ (by decide) (by omega) rfl (by kernel_rfl) (by kernel_rfl) rfl)) ?_
          refine Obs.cons (Ob.imm rfl (fun w => exec_idxS k hlt rfl (by kernel_rfl) (by kernel_rfl))) ?_
          refine Obs.cons (Ob.fin1 (.int .i64 (X % 65536)) rfl rfl (hX.cellthere hlt) rfl (by kernel_rfl) (by kernel_rfl) (fun w v0 h hf => run_storeI w v0 h hf)) ?_
          exact Obs.nil
        replace hX := (hX.grown hD.gr).iset (mix (lo16 0 (fun j => d16 a j + d16 q j)) (d16 a) (k + 1)) k hlt (X % 65536) (by rw [mix_put, hlo]) (mix_off _ _ _)
        clear hD hlo
        simp only [finAct, putAll, valsFrom, Plan.value, Act.put, List.setIfInBounds_toArray, List.set_cons_zero, List.set_cons_succ]
        repeat ((fail_if_success (with_reducible show Code.wp _ (Code.region _ _ _) _ _ _)); go_step)
        refine wp_plain [.imm (.int .i64 X), .imm (.int .i64 (X / 65536)), .imm (.int .i64 (X / 65536))] (by kernel_rfl) (fun β => ?_) (fun β w6 hD => ?_)
        · refine Obs.cons (Ob.imm rfl (fun w => by kernel_rfl)) ?_
          refine Obs.cons (Ob.imm rfl (fun w => exec_quoZ X 65536 _ (by decide) (by omega) (by omega) rfl (by kernel_rfl) (by kernel_rfl) rfl)) ?_
          refine Obs.cons (Ob.imm rfl (fun w => by kernel_rfl)) ?_
          exact Obs.nil
        have hS := Hid.of (hX.grown hD.gr)
        have hnn := Hid.of hkn
        have hkk := Hid.of hlt
        have eL := Hid.of (show wrap64 ((k : Int) + 1) = ((k + 1 : Nat) : Int) by unfold wrap64; omega)
        clear hD hX hkn hXb hlt hk
        simp only [finAct, putAll, valsFrom, Plan.value, Act.put, List.setIfInBounds_toArray, List.set_cons_zero, List.set_cons_succ]
        go_wp2
        rw [eL.out]
        exact ⟨⟨k + 1, rfl, by rw [hnn.out], hkk.out, hS.out⟩, by have := hkk.out; simp [intOf]; omega⟩
      · obtain rfl : k = 16 := by omega
        obtain ⟨haq, he⟩ := HA.out
        replace hX := hX.icongr (h := d16 (a + q)) (fun j hj => by rw [mix_all _ _ hj]; exact sum_dig haq j hj)
        clear hlt hk HA HB
        repeat ((fail_if_success (with_reducible show Code.wp _ (Code.region _ _ _) _ _ _)); go_step)
        refine wp_plain [.imm (.int .i64 ((16 : Nat) : Int)), .imm (.bool false)] (by kernel_rfl) (fun β => ?_) (fun β w4 hD => ?_)
        · refine Obs.cons (Ob.imm rfl (fun w => by kernel_rfl)) ?_
          refine Obs.cons (Ob.imm rfl (fun w => by kernel_rfl)) ?_
          exact Obs.nil
        replace hX := hX.grown hD.gr
        clear hD
        simp only [finAct, putAll, valsFrom, Plan.value, Act.put, List.setIfInBounds_toArray, List.set_cons_zero, List.set_cons_succ]
        repeat ((fail_if_success (with_reducible show Code.wp _ (Code.region _ _ _) _ _ _)); go_step)
        refine wp_plain_fin [.val (sn (a + q)), .val (sn ((a + q) / 2)), .fin] bR 0 (fun _ => il 16 (d16 ((a + q) / 2))) (by kernel_rfl) (fun β => ?_) (fun β w5 hD => ?_)
        · refine Obs.cons (Ob.load b0 0 (il 16 (d16 (a + q))) rfl rfl (by kernel_rfl) hX.irange Tryd.underlying45 rfl (by rw [il_length]; exact infoS)) ?_
          refine Obs.cons (Ob.call 93 #[sn (a + q)] rfl (fun w => by kernel_rfl) (fun w _ => half_r (a + q) haq w)) ?_
          refine Obs.cons (Ob.fin rfl (by rw [il_length]; exact hX.tr) rfl (by kernel_rfl) (by kernel_rfl) (by rw [il_length]; exact infoS) (il_one _ _)) ?_
          exact Obs.nil
        replace hX := hX.grown hD.gr
        have hr := World.rangeAt_setCells_same w5 bR 0 (il 16 (d16 ((a + q) / 2))) (by rw [il_length]; exact hX.tr)
        have hW := grown_setCells hX.f2 (il 16 (d16 ((a + q) / 2))) 0 hX.gw
        clear hD
        simp only [finAct, putAll, valsFrom, Plan.value, Act.put, List.setIfInBounds_toArray, List.set_cons_zero, List.set_cons_succ]
        repeat go_step
        refine bodyPost_ret (v := sn ((a + q) / 2)) (result_cells Tryd.results94 _ _ bR (il 16 (d16 ((a + q) / 2))) ?hp hr Tryd.underlying45 rfl (by rw [il_length]; exact infoS)) ?hd ?_
        case hp => rfl
        case hd => rfl
        exact ⟨by rw [if_neg he], hW⟩

theorem halfMod_r (a : Nat) (ha : a < p) (w : World) (hpr : Gp w) : Calls Tryd.prog 94 #[sn a] w fun e w' => e = .returned (sn (hm a)) ∧ Grown w w' :=
  halfMod_q a p (Nat.lt_of_lt_of_le (Nat.add_lt_add_right ha p) (by decide +kernel)) w hpr
end Go.Proofs.YtkegcilcapnpdaaDoor

namespace FieldNum
theorem bit_eq (b i : Nat) : b / 256 ^ (i / 8) % 256 / 2 ^ (i % 8) % 2 = b / 2 ^ i % 2 := by
  have e1 : (256 : Nat) = 2 ^ 8 := by decide
  have hr : i % 8 < 8 := Nat.mod_lt _ (by decide)
  have h : b / 2 ^ i = b / 256 ^ (i / 8) / 2 ^ (i % 8) := by
    rw [Nat.div_div_eq_div_mul, e1, ← Nat.pow_mul, ← Nat.pow_add, Nat.div_add_mod]
  rw [h]
  generalize b / 256 ^ (i / 8) = x at *
  generalize i % 8 = r at *
  rcases (by omega : r = 0 ∨ r = 1 ∨ r = 2 ∨ r = 3 ∨ r = 4 ∨ r = 5 ∨ r = 6 ∨ r = 7) with rfl | rfl | rfl | rfl | rfl | rfl | rfl | rfl <;> simp only [Nat.reducePow] <;> omega
theorem half_step (x k : Nat) : x / 2 ^ k / 2 = x / 2 ^ (k + 1) := by rw [Nat.pow_succ, Nat.div_div_eq_div_mul]
end FieldNum
namespace Go.Proofs.YtkegcilcapnpdaaDoor
open Go.RowKit Go.Shelf FieldNum

set_option maxRecDepth 100000 in
set_option maxHeartbeats 4000000 in
theorem bit_r (e i : Nat) (hi : i < 256) (w : World) : Calls Tryd.prog 91 #[bv e, .int .i64 (i : Int)] w fun ex w' => ex = .returned (.bool (decide (e / 2 ^ i % 2 = 1))) ∧ Grown w w' := by
  go_enter Tryd.func91, Tryd.ntmps91
  repeat ((fail_if_success (with_reducible show Code.wp _ (Code.region _ _ _) _ _ _)); go_step)
  refine wp_plain [.box 23 (bl e), .imm (.bool false)] (by kernel_rfl) (fun β => ?_) (fun β w1 hD => ?_)
  · refine Obs.cons (Ob.box rfl rfl (by kernel_rfl)) ?_
    refine Obs.cons (Ob.imm rfl (fun w => by kernel_rfl)) ?_
    exact Obs.nil
  have h0 := (hD.bx 0 _ _ rfl).2
  have hW := hD.gr
  clear hD
  simp only [finAct, putAll, valsFrom, Plan.value, Act.put, List.setIfInBounds_toArray, List.set_cons_zero, List.set_cons_succ]
  generalize β 0 = b0 at *
  repeat ((fail_if_success (with_reducible show Code.wp _ (Code.region _ _ _) _ _ _)); go_step)
  have hq : i / 8 < 32 := by omega
  have hr : i % 8 < 8 := Nat.mod_lt _ (by decide)
  have hxa := cell_b h0 hq
  have hbe := bit_eq e i
  obtain ⟨D, eD⟩ : ∃ D, D = e / 256 ^ (i / 8) % 256 := ⟨_, rfl⟩
  have hDl : D < 256 := by rw [eD]; exact Nat.mod_lt _ (by decide)
  rw [← eD] at hxa hbe
  clear eD
  refine wp_plain [.imm (.int .i64 (i : Int)), .imm (.int .i64 ((i / 8 : Nat) : Int)), .imm (.pointer (some ⟨b0, i / 8, none⟩)), .val (.int .u8 (D : Int)), .imm (.int .i64 (D : Int)), .imm (.int .i64 (D : Int))] (by kernel_rfl) (fun β => ?_) (fun β w2 hD => ?_)
  · refine Obs.cons (Ob.imm rfl (fun w => by kernel_rfl)) ?_
    refine Obs.cons (Ob.imm rfl (fun w => exec_quoZ (i : Int) 8 _ (by decide) (by omega) (by omega) rfl (by kernel_rfl) (by kernel_rfl) (by omega))) ?_
    refine Obs.cons (Ob.imm rfl (fun w => exec_idx (i / 8) hq rfl (by kernel_rfl) (by kernel_rfl))) ?_
    refine Obs.cons (Ob.load1 b0 (i / 8) rfl rfl (by kernel_rfl) (block_lt_of_cell hxa) hxa (fun w h => run_load8 w h)) ?_
    refine Obs.cons (Ob.imm rfl (fun w => exec_c53 D (by omega) rfl (by kernel_rfl))) ?_
    refine Obs.cons (Ob.imm rfl (fun w => by kernel_rfl)) ?_
    exact Obs.nil
  replace hW := grown_trans hW hD.gr
  clear hD hxa h0
  simp only [finAct, putAll, valsFrom, Plan.value, Act.put, List.setIfInBounds_toArray, List.set_cons_zero, List.set_cons_succ]
  have HH := Hid.of (And.intro hi (And.intro hr (And.intro hDl hbe)))
  clear hi hr hDl hbe hq
  go_wp2
  go_loopw [5, 6] (fun v5 v6 wr => ∃ k : Nat, v6 = .int .i64 (k : Int) ∧ v5 = .int .i64 ((D / 2 ^ k : Nat) : Int) ∧ k ≤ i % 8 ∧ Grown w wr) (fun _ v6 _ => (8 - intOf v6).toNat)
  case atStart => exact ⟨0, rfl, by rw [Nat.pow_zero, Nat.div_one], Nat.zero_le _, hW⟩
  case round =>
    clear hW
    obtain ⟨k, rfl, rfl, hk, hW⟩ := hrel
    obtain ⟨hi, hr, hDl, hbe⟩ := HH.out
    have hle : D / 2 ^ k ≤ D := Nat.div_le_self _ _
    have hst := half_step D k
    obtain ⟨y, ey⟩ : ∃ y, y = D / 2 ^ k := ⟨_, rfl⟩
    rw [← ey] at hle hst
    rw [← ey]
    by_cases hlt : k < i % 8
    · repeat ((fail_if_success (with_reducible show Code.wp _ (Code.region _ _ _) _ _ _)); go_step)
      refine wp_plain [.imm (.int .i64 (k : Int)), .imm (.int .i64 (i : Int)), .imm (.int .i64 ((i % 8 : Nat) : Int)), .imm (.bool true)] (by kernel_rfl) (fun β => ?_) (fun β w3 hD => ?_)
      · refine Obs.cons (Ob.imm rfl (fun w => by kernel_rfl)) ?_
        refine Obs.cons (Ob.imm rfl (fun w => by kernel_rfl)) ?_
        refine Obs.cons (Ob.imm rfl (fun w => exec_remZ (i : Int) 8 _ (by decide) (by omega) rfl (by kernel_rfl) (by kernel_rfl) (by omega))) ?_
        refine Obs.cons (Ob.imm rfl (fun w => exec_lssI rfl (k : Int) ((i % 8 : Nat) : Int) (by kernel_rfl) (by kernel_rfl) true (decide_eq_true (by omega)))) ?_
        exact Obs.nil
      replace hW := grown_trans hW hD.gr
      clear hD
      simp only [finAct, putAll, valsFrom, Plan.value, Act.put, List.setIfInBounds_toArray, List.set_cons_zero, List.set_cons_succ]
      have hS := Hid.of (And.intro hW hst)
      have hkk := Hid.of (And.intro hlt hr)
      have eL := Hid.of (show wrap64 ((k : Int) + 1) = ((k + 1 : Nat) : Int) by unfold wrap64; omega)
      have e1 := Hid.of (show wrap64 ((y : Int) / 2) = ((y / 2 : Nat) : Int) by unfold wrap64; omega)
      clear hW hst hlt hk hle ey hi hr hDl hbe
      go_wp2
      rw [eL.out, e1.out]
      exact ⟨⟨k + 1, rfl, by rw [hS.out.2], hkk.out.1, hS.out.1⟩, by have := hkk.out; simp [intOf]; omega⟩
    · have ek : k = i % 8 := by omega
      have hy : y % 2 = e / 2 ^ i % 2 := by rw [← hbe, ey, ek]
      clear hst ey hbe
      repeat ((fail_if_success (with_reducible show Code.wp _ (Code.region _ _ _) _ _ _)); go_step)
      refine wp_plain [.imm (.int .i64 (k : Int)), .imm (.int .i64 (i : Int)), .imm (.int .i64 ((i % 8 : Nat) : Int)), .imm (.bool false)] (by kernel_rfl) (fun β => ?_) (fun β w3 hD => ?_)
      · refine Obs.cons (Ob.imm rfl (fun w => by kernel_rfl)) ?_
        refine Obs.cons (Ob.imm rfl (fun w => by kernel_rfl)) ?_
        refine Obs.cons (Ob.imm rfl (fun w => exec_remZ (i : Int) 8 _ (by decide) (by omega) rfl (by kernel_rfl) (by kernel_rfl) (by omega))) ?_
        refine Obs.cons (Ob.imm rfl (fun w => exec_lssI rfl (k : Int) ((i % 8 : Nat) : Int) (by kernel_rfl) (by kernel_rfl) false (decide_eq_false (by omega)))) ?_
        exact Obs.nil
      replace hW := grown_trans hW hD.gr
      clear hD
      simp only [finAct, putAll, valsFrom, Plan.value, Act.put, List.setIfInBounds_toArray, List.set_cons_zero, List.set_cons_succ]
      repeat ((fail_if_success (with_reducible show Code.wp _ (Code.region _ _ _) _ _ _)); go_step)
      refine wp_plain [.imm (.int .i64 (y : Int)), .imm (.int .i64 ((y % 2 : Nat) : Int)), .imm (.bool (decide (e / 2 ^ i % 2 = 1))), .imm (.bool (decide (e / 2 ^ i % 2 = 1)))] (by kernel_rfl) (fun β => ?_) (fun β w4 hD => ?_)
      · refine Obs.cons (Ob.imm rfl (fun w => by kernel_rfl)) ?_
        refine Obs.cons (Ob.imm rfl (fun w => exec_remZ (y : Int) 2 _ (by decide) (by omega) rfl (by kernel_rfl) (by kernel_rfl) (by omega))) ?_
        refine Obs.cons (Ob.imm rfl (fun w => exec_eqlI rfl ((y % 2 : Nat) : Int) 1 (by kernel_rfl) (by kernel_rfl) _ (decide_eq_decide.2 (by rw [← hy]; omega)))) ?_
        refine Obs.cons (Ob.imm rfl (fun w => by kernel_rfl)) ?_
        exact Obs.nil
      replace hW := grown_trans hW hD.gr
      clear hD
      simp only [finAct, putAll, valsFrom, Plan.value, Act.put, List.setIfInBounds_toArray, List.set_cons_zero, List.set_cons_succ]
      repeat go_step
      go_ret
      exact ⟨rfl, hW⟩

set_option maxRecDepth 100000 in
set_option maxHeartbeats 8000000 in
theorem Power_r (a e : Nat) (ha : a < S256) (he : e < S256) (w : World) (hpr : Gp w) : Calls Tryd.prog 68 #[sn a, bv e] w fun ex w' => ex = .returned (sn (a ^ e % p)) ∧ Grown w w' := by
  have HG := Hid.of hpr
  clear hpr
  go_enter Tryd.func68, Tryd.ntmps68
  repeat ((fail_if_success (with_reducible show Code.wp _ (Code.region _ _ _) _ _ _)); go_step)
  refine wp_plain [.box 45 (il 16 (d16 a)), .box 23 (bl e), .new 45 16] (by kernel_rfl) (fun β => ?_) (fun β w1 hD => ?_)
  · refine Obs.cons (Ob.box rfl rfl (by kernel_rfl)) ?_
    refine Obs.cons (Ob.box rfl rfl (by kernel_rfl)) ?_
    refine Obs.cons (Ob.new _ rfl rfl zeroS (by simp [il_length])) ?_
    exact Obs.nil
  have hr0 := (hD.bx 0 _ _ rfl).2
  have hr1 := (hD.bx 1 _ _ rfl).2
  obtain ⟨hf2, ht2⟩ := hD.nw 2 _ _ rfl
  have hW := hD.gr
  clear hD
  simp only [finAct, putAll, valsFrom, Plan.value, Act.put, List.setIfInBounds_toArray, List.set_cons_zero, List.set_cons_succ]
  generalize β 0 = b0 at *
  generalize β (0 + 1) = b1 at *
  generalize β (0 + 1 + 1) = bR at *
  repeat ((fail_if_success (with_reducible show Code.wp _ (Code.region _ _ _) _ _ _)); go_step)
  refine wp_plain [.val (sn 1), .new 45 16, .put 1 1 (fun _ => il 16 (d16 1))] (by kernel_rfl) (fun β => ?_) (fun β w2 hD => ?_)
  · refine Obs.cons (Ob.call 39 #[.int .i64 1] rfl (fun w => by kernel_rfl) (fun w _ => Small_r 1 (by decide) 1 rfl w)) ?_
    refine Obs.cons (Ob.new _ rfl rfl zeroS (by simp [il_length])) ?_
    refine Obs.cons (Ob.put 45 rfl rfl rfl (by kernel_rfl) (by kernel_rfl) (by rw [il_length]; exact infoS) (il_one _ _)) ?_
    exact Obs.nil
  obtain ⟨hfG, htG⟩ := hD.nw 1 _ _ rfl
  have hrG : w2.rangeAt (β 1) 0 (il 16 (d16 1)) := hD.rg 2 1 1 (fun _ => il 16 (d16 1)) rfl
  have hb2 : bR < w1.heap.size := there_lt' ht2 (by decide)
  have hP0 : KX w 16 (β 1) bR 16 (iF (d16 1)) [(b0, il 16 (d16 a)), (b1, bl e)] w2 := ⟨fun j hj => cell_i hrG hj, fun j => by
      by_cases hj : j < 16
      · have := (htG j hj).2
        rwa [Nat.zero_add] at this
      · exact (hD.gr.2.1 _).trans (frozen_past hfG), fun q hq => by
      rcases List.mem_cons.1 hq with rfl | hq
      · exact ⟨rangeAt_grown hr0 hD.gr, ne_of_freshI hr0 (by decide) hfG⟩
      obtain rfl := List.mem_singleton.1 hq
      exact ⟨rangeAt_grown hr1 hD.gr, ne_of_fresh hr1 hfG⟩, there_grown ht2 hD.gr, by omega, Nat.le_trans hW.2.2 hfG, hf2, grown_trans hW hD.gr⟩
  clear hD hfG htG hrG hb2 hW hf2 ht2 hr0 hr1
  simp only [finAct, putAll, valsFrom, Plan.value, Act.put, List.setIfInBounds_toArray, List.set_cons_zero, List.set_cons_succ]
  generalize β (0 + 1) = bG at *
  have HA := Hid.of ha
  have HS : Hid (1 = a ^ (e / 2 ^ 256) % p) := Hid.of (by rw [Nat.div_eq_of_lt (Nat.lt_of_lt_of_le he (by decide)), Nat.pow_zero]; decide +kernel)
  clear ha he
  go_wp2
  go_loopw [6] (fun v6 wr => ∃ (k x : Nat), v6 = .int .i64 ((k : Int) - 1) ∧ k ≤ 256 ∧ x < S256 ∧ x = a ^ (e / 2 ^ k) % p ∧ KX w 16 bG bR 16 (iF (d16 x)) [(b0, il 16 (d16 a)), (b1, bl e)] wr) (fun v6 _ => (intOf v6 + 1).toNat)
  case atStart => exact ⟨256, 1, rfl, by decide, by decide, HS.out, hP0⟩
  case round =>
    clear hP0 HS
    obtain ⟨k, x, rfl, hk, hx, hxe, hX⟩ := hrel
    cases k with
    | zero =>
      have ex : x = a ^ e % p := by rw [hxe, Nat.pow_zero, Nat.div_one]
      have hr := hX.irange
      have ht := hX.tr
      have hf := hX.f2
      have hW := hX.gw
      clear hX hk
      repeat ((fail_if_success (with_reducible show Code.wp _ (Code.region _ _ _) _ _ _)); go_step)
      refine wp_plain [.imm (.int .i64 (((0 : Nat) : Int) - 1)), .imm (.bool false)] (by kernel_rfl) (fun β => ?_) (fun β w3 hD => ?_)
      · refine Obs.cons (Ob.imm rfl (fun w => by kernel_rfl)) ?_
        refine Obs.cons (Ob.imm rfl (fun w => exec_geqZ (((0 : Nat) : Int) - 1) 0 rfl (by kernel_rfl) (by kernel_rfl) false (by decide))) ?_
        exact Obs.nil
      replace hr := rangeAt_grown hr hD.gr
      replace ht := there_grown ht hD.gr
      replace hW := grown_trans hW hD.gr
      clear hD
      simp only [finAct, putAll, valsFrom, Plan.value, Act.put, List.setIfInBounds_toArray, List.set_cons_zero, List.set_cons_succ]
      go_wp2_with (with_reducible show wpList _ _ _ ({ dst := _, op := Op.load 45 _, type := _, pos := _, after := _, guard := _ } :: _) _ _; refine Shut.out ?_)
      show wpList _ _ _ _ _ _
      refine wpList_load_mid rfl 45 _ rfl bG 0 rfl (il 16 (d16 x)) _ hr Tryd.underlying45 rfl (by rw [il_length]; exact infoS) ?_
      simp only [Act.put, List.setIfInBounds_toArray, List.set_cons_zero, List.set_cons_succ]
      refine wpList_store_mid rfl 45 _ _ rfl bR 0 (il 16 (d16 x)).toArray rfl rfl (by rw [List.size_toArray, il_length]; exact ht) (by rw [List.size_toArray, il_length]; exact infoS) (all_oneCell_toArray (il_one _ _)) ?_
      simp only [Act.put]
      apply wpList_nil
      repeat go_step
      refine bodyPost_ret (v := sn x) (result_cells Tryd.results68 _ _ bR (il 16 (d16 x)) ?hp (World.rangeAt_setCells_same _ _ _ _ (by rw [il_length]; exact ht)) Tryd.underlying45 rfl (by rw [il_length]; exact infoS)) ?hd ?_
      case hp => rfl
      case hd => rfl
      exact ⟨by rw [ex], grown_setCells hf _ _ hW⟩
    | succ i =>
      have hi : i < 256 := by omega
      rw [show ((i + 1 : Nat) : Int) - 1 = (i : Int) by omega]
      have hGp := HG.out.grown hX.gw
      have ha := HA.out
      repeat ((fail_if_success (with_reducible show Code.wp _ (Code.region _ _ _) _ _ _)); go_step)
      refine wp_plain [.imm (.int .i64 (i : Int)), .imm (.bool true)] (by kernel_rfl) (fun β => ?_) (fun β w3 hD => ?_)
      · refine Obs.cons (Ob.imm rfl (fun w => by kernel_rfl)) ?_
        refine Obs.cons (Ob.imm rfl (fun w => exec_geqZ (i : Int) 0 rfl (by kernel_rfl) (by kernel_rfl) true (decide_eq_true (by omega)))) ?_
        exact Obs.nil
      replace hX := hX.grown hD.gr
      replace hGp := hGp.grown hD.gr
      clear hD
      simp only [finAct, putAll, valsFrom, Plan.value, Act.put, List.setIfInBounds_toArray, List.set_cons_zero, List.set_cons_succ]
      repeat ((fail_if_success (with_reducible show Code.wp _ (Code.region _ _ _) _ _ _)); go_step)
      refine wp_plain_fin [.val (sn x), .val (sn x), .val (sn (x * x % p)), .fin] bG 0 (fun _ => il 16 (d16 (x * x % p))) (by kernel_rfl) (fun β => ?_) (fun β w4 hD => ?_)
      · refine Obs.cons (Ob.load bG 0 (il 16 (d16 (x))) rfl rfl (by kernel_rfl) hX.irange Tryd.underlying45 rfl (by rw [il_length]; exact infoS)) ?_
        refine Obs.cons (Ob.load bG 0 (il 16 (d16 (x))) rfl rfl (by kernel_rfl) hX.irange Tryd.underlying45 rfl (by rw [il_length]; exact infoS)) ?_
        refine Obs.cons (Ob.call 63 #[sn x, sn x] rfl (fun w => by kernel_rfl) (fun w hg => Times_r x x hx hx w (hGp.grown hg))) ?_
        refine Obs.cons (Ob.fin rfl (by rw [il_length]; exact hX.there) rfl (by kernel_rfl) (by kernel_rfl) (by rw [il_length]; exact infoS) (il_one _ _)) ?_
        exact Obs.nil
      replace hX := (hX.grown hD.gr).istore (d16 (x * x % p))
      clear hD hGp
      simp only [finAct, putAll, valsFrom, Plan.value, Act.put, List.setIfInBounds_toArray, List.set_cons_zero, List.set_cons_succ]
      generalize w4.setCells bG 0 (il 16 (d16 (x * x % p))) = w5 at *
      have hGp := HG.out.grown hX.gw
      repeat ((fail_if_success (with_reducible show Code.wp _ (Code.region _ _ _) _ _ _)); go_step)
      have hpb := pow_bit a e i (decide (e / 2 ^ i % 2 = 1)) rfl x hxe
      have hxx := mod_S (x * x)
      obtain ⟨z, ez⟩ : ∃ z, z = x * x % p := ⟨_, rfl⟩
      rw [← ez] at hX hpb hxx
      refine wp_plain [.val (bv e), .imm (.int .i64 (i : Int)), .val (.bool (decide (e / 2 ^ i % 2 = 1))), .imm (.bool (decide (e / 2 ^ i % 2 = 1)))] (by kernel_rfl) (fun β => ?_) (fun β w6 hD => ?_)
      · refine Obs.cons (Ob.load b1 0 (bl e) rfl rfl (by kernel_rfl) (hX.arg b1 _ (List.mem_cons_of_mem _ (List.mem_cons_self ..))) Tryd.underlying23 rfl (by rw [bl_length]; exact info32)) ?_
        refine Obs.cons (Ob.imm rfl (fun w => by kernel_rfl)) ?_
        refine Obs.cons (Ob.call 91 #[bv e, .int .i64 (i : Int)] rfl (fun w => by kernel_rfl) (fun w _ => bit_r e i hi w)) ?_
        refine Obs.cons (Ob.imm rfl (fun w => by kernel_rfl)) ?_
        exact Obs.nil
      replace hX := hX.grown hD.gr
      replace hGp := hGp.grown hD.gr
      clear hD
      simp only [finAct, putAll, valsFrom, Plan.value, Act.put, List.setIfInBounds_toArray, List.set_cons_zero, List.set_cons_succ]
      repeat ((fail_if_success (with_reducible show Code.wp _ (Code.region _ _ _) _ _ _)); go_step)
      clear hxe ez hk
      have hii := Hid.of hi
      have eL := Hid.of (show wrap64 ((i : Int) - 1) = (i : Int) - 1 by unfold wrap64; omega)
      cases hb : decide (e / 2 ^ i % 2 = 1)
      · rw [hb, if_neg (by decide)] at hpb
        refine wp_plain [.imm (.bool false)] (by kernel_rfl) (fun β => ?_) (fun β w7 hD => ?_)
        · refine Obs.cons (Ob.imm rfl (fun w => by kernel_rfl)) ?_
          exact Obs.nil
        have hS := Hid.of (And.intro hxx (And.intro hpb (hX.grown hD.gr)))
        clear hD hX hGp hpb hxx ha hi hb
        simp only [finAct, putAll, valsFrom, Plan.value, Act.put, List.setIfInBounds_toArray, List.set_cons_zero, List.set_cons_succ]
        go_wp2
        rw [eL.out]
        exact ⟨⟨i, z, rfl, by have := hii.out; omega, hS.out.1, hS.out.2.1, hS.out.2.2⟩, by simp [intOf]⟩
      · rw [hb, if_pos rfl] at hpb
        refine wp_plain [.imm (.bool true)] (by kernel_rfl) (fun β => ?_) (fun β w7 hD => ?_)
        · refine Obs.cons (Ob.imm rfl (fun w => by kernel_rfl)) ?_
          exact Obs.nil
        replace hX := hX.grown hD.gr
        replace hGp := hGp.grown hD.gr
        clear hD
        simp only [finAct, putAll, valsFrom, Plan.value, Act.put, List.setIfInBounds_toArray, List.set_cons_zero, List.set_cons_succ]
        repeat ((fail_if_success (with_reducible show Code.wp _ (Code.region _ _ _) _ _ _)); go_step)
        refine wp_plain_fin [.val (sn z), .val (sn a), .val (sn (z * a % p)), .fin] bG 0 (fun _ => il 16 (d16 (z * a % p))) (by kernel_rfl) (fun β => ?_) (fun β w8 hD => ?_)
        · refine Obs.cons (Ob.load bG 0 (il 16 (d16 (z))) rfl rfl (by kernel_rfl) hX.irange Tryd.underlying45 rfl (by rw [il_length]; exact infoS)) ?_
          refine Obs.cons (Ob.load b0 0 (il 16 (d16 a)) rfl rfl (by kernel_rfl) (hX.arg b0 _ (List.mem_cons_self ..)) Tryd.underlying45 rfl (by rw [il_length]; exact infoS)) ?_
          refine Obs.cons (Ob.call 63 #[sn z, sn a] rfl (fun w => by kernel_rfl) (fun w hg => Times_r z a hxx ha w (hGp.grown hg))) ?_
          refine Obs.cons (Ob.fin rfl (by rw [il_length]; exact hX.there) rfl (by kernel_rfl) (by kernel_rfl) (by rw [il_length]; exact infoS) (il_one _ _)) ?_
          exact Obs.nil
        have hS := Hid.of (And.intro (mod_S (z * a)) (And.intro hpb ((hX.grown hD.gr).istore (d16 (z * a % p)))))
        clear hD hX hGp hpb hxx ha hi hb
        simp only [finAct, putAll, valsFrom, Plan.value, Act.put, List.setIfInBounds_toArray, List.set_cons_zero, List.set_cons_succ]
        generalize w8.setCells bG 0 (il 16 (d16 (z * a % p))) = w9 at *
        go_wp2
        rw [eL.out]
        exact ⟨⟨i, z * a % p, rfl, by have := hii.out; omega, hS.out.1, hS.out.2.1, hS.out.2.2⟩, by simp [intOf]⟩

end Go.Proofs.YtkegcilcapnpdaaDoor
