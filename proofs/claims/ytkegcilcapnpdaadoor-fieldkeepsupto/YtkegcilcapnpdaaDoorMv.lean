import Derived.Test.YtkegcilcapnpdaaDoorMu
namespace Go.Proofs.YtkegcilcapnpdaaDoor
open Go.RowKit Go.Shelf FieldNum

def adds (a b j : Nat) : Int := if j < 16 then d16 a j + d16 b j else 0
theorem adds_cols {a b : Nat} (ha : a < S256) (hb : b < S256) : Cols (adds a b) (a + b) := cols_add ha hb
set_option maxRecDepth 100000 in
set_option maxHeartbeats 4000000 in
theorem Plus_r (a b : Nat) (ha : a < S256) (hb : b < S256) (w : World) (hpr : Gp w) : Calls Tryd.prog 64 #[sn a, sn b] w fun e w' => e = .returned (sn ((a + b) % p)) ∧ Grown w w' := by
  have HG := Hid.of hpr
  clear hpr
  go_enter Tryd.func64, Tryd.ntmps64
  repeat ((fail_if_success (with_reducible show Code.wp _ (Code.region _ _ _) _ _ _)); go_step)
  refine wp_plain [.box 45 (il 16 (d16 a)), .box 45 (il 16 (d16 b)), .new 45 16] (by kernel_rfl) (fun β => ?_) (fun β w1 hD => ?_)
  · refine Obs.cons (Ob.box rfl rfl (by kernel_rfl)) ?_
    refine Obs.cons (Ob.box rfl rfl (by kernel_rfl)) ?_
    refine Obs.cons (Ob.new _ rfl rfl zeroS (by simp [il_length])) ?_
    exact Obs.nil
  have hr0 := (hD.bx 0 _ _ rfl).2
  have hr1 := (hD.bx 1 _ _ rfl).2
  obtain ⟨hf2, ht2⟩ := hD.nw 2 _ _ rfl
  have hW := hD.gr
  clear hD
  simp only [finAct, putAll, valsFrom, Plan.value, Act.put, List.setIfInBounds_toArray, List.set_cons_zero, List.set_cons_succ]
  generalize β 0 = b0 at *
  generalize β (0 + 1) = b1 at *
  generalize β (0 + 1 + 1) = bR at *
  repeat ((fail_if_success (with_reducible show Code.wp _ (Code.region _ _ _) _ _ _)); go_step)
  refine wp_plain [.box 92 (il 32 fun _ => 0)] (by kernel_rfl) (fun β => ?_) (fun β w2 hD => ?_)
  · refine Obs.cons (Ob.newz (il 32 fun _ => 0) rfl rfl zeroW) ?_
    exact Obs.nil
  obtain ⟨hf3, hr3⟩ := hD.bx 0 _ _ rfl
  have hb2 : bR < w1.heap.size := there_lt' ht2 (by decide)
  have hP0 : KX w 32 (β 0) bR 16 (iF fun _ => 0) [(b0, il 16 (d16 a)), (b1, il 16 (d16 b))] w2 := ⟨fun j hj => cell_i hr3 hj, fun j => (hD.gr.2.1 _).trans (frozen_past hf3), fun q hq => by
      rcases List.mem_cons.1 hq with rfl | hq
      · exact ⟨rangeAt_grown hr0 hD.gr, ne_of_freshI hr0 (by decide) hf3⟩
      obtain rfl := List.mem_singleton.1 hq
      exact ⟨rangeAt_grown hr1 hD.gr, ne_of_freshI hr1 (by decide) hf3⟩,
      there_grown ht2 hD.gr, by omega, Nat.le_trans hW.2.2 hf3, hf2, grown_trans hW hD.gr⟩
  clear hD hf2 ht2 hW hf3 hr3 hb2 hr0 hr1
  simp only [finAct, putAll, valsFrom, Plan.value, Act.put, List.setIfInBounds_toArray, List.set_cons_zero, List.set_cons_succ]
  generalize β 0 = bG at *
  go_wp2
  go_loopw [6] (fun v wr => ∃ k : Nat, v = .int .i64 (k : Int) ∧ k ≤ 16 ∧ KX w 32 bG bR 16 (iF (mix (adds a b) (fun _ => 0) k)) [(b0, il 16 (d16 a)), (b1, il 16 (d16 b))] wr) (fun v _ => (16 - intOf v).toNat)
  case atStart => exact ⟨0, rfl, by decide, by rw [mix_zero]; exact hP0⟩
  case round =>
    obtain ⟨k, rfl, hk, hX⟩ := hrel
    clear hP0
    by_cases hlt : k < 16
    · have k1 : (k : Int) < 16 := by omega
      have HX := Hid.of (hX.grown (gdrew wr))
      have hkk := Hid.of hlt
      clear hX hk hlt
      go_wp2
      have hlt := hkk.out
      have hX := HX.out
      have hxa := cell_i (hX.arg b0 _ (List.mem_cons_self ..)) hlt
      have hxb := cell_i (hX.arg b1 _ (List.mem_cons_of_mem _ (List.mem_cons_self ..))) hlt
      have hx := d16_in a 16 k hlt
      have hy := d16_in b 16 k hlt
      have hfc : adds a b k = d16 a k + d16 b k := if_pos hlt
      generalize d16 a k = x at hxa hx hfc
      generalize d16 b k = y at hxb hy hfc
      refine wp_loose_fin [.imm (.int .i64 (k : Int)), .imm (.int .i64 (k : Int)), .imm (.pointer (some ⟨b0, k, none⟩)), .val (.int .i64 x), .imm (.int .i64 (k : Int)), .imm (.pointer (some ⟨b1, k, none⟩)), .val (.int .i64 y), .imm (.int .i64 (x + y)), .imm (.pointer (some ⟨bG, k, none⟩)), .fin] bG k (fun _ => [.int .i64 (x + y)]) (by kernel_rfl) (by kernel_rfl) (fun β => ?_) (fun β w4 hD => ?_)
      · refine Obs.cons (Ob.imm rfl (fun w => by kernel_rfl)) ?_
        refine Obs.cons (Ob.imm rfl (fun w => by kernel_rfl)) ?_
        refine Obs.cons (Ob.imm rfl (fun w => exec_idxS k hlt rfl (by kernel_rfl) (by kernel_rfl))) ?_
        refine Obs.cons (Ob.load1 b0 k rfl rfl (by kernel_rfl) (block_lt_of_cell hxa) hxa (fun w h => run_loadI w h)) ?_
        refine Obs.cons (Ob.imm rfl (fun w => by kernel_rfl)) ?_
        refine Obs.cons (Ob.imm rfl (fun w => exec_idxS k hlt rfl (by kernel_rfl) (by kernel_rfl))) ?_
        refine Obs.cons (Ob.load1 b1 k rfl rfl (by kernel_rfl) (block_lt_of_cell hxb) hxb (fun w h => run_loadI w h)) ?_
        refine Obs.cons (Ob.imm rfl (fun w => exec_addI x y _ rfl (by kernel_rfl) (by kernel_rfl) (by rw [IntKind.wrap_i64]; omega))) ?_
        refine Obs.cons (Ob.imm rfl (fun w => exec_idxW k (by omega) rfl (by kernel_rfl) (by kernel_rfl))) ?_
        refine Obs.cons (Ob.fin1 (.int .i64 (x + y)) rfl rfl (hX.cellthere (by omega)) rfl (by kernel_rfl) (by kernel_rfl) (fun w v0 h hf => run_storeI w v0 h hf)) ?_
        exact Obs.nil
      have hS := Hid.of ((hX.grown hD.gr).iset (mix (adds a b) (fun _ => 0) (k + 1)) k (by omega) (x + y) (by rw [mix_put, hfc]) (mix_off _ _ _))
      clear hD hX HX hxa hxb hx hy hfc
      simp only [finAct, putAll, valsFrom, Plan.value, Act.put, List.setIfInBounds_toArray, List.set_cons_zero, List.set_cons_succ]
      go_wp2
      go_roundw
      case rel => exact ⟨k + 1, by simp, hkk.out, hS.out⟩
      case measure => have := hkk.out; simp [intOf]; omega
    · obtain rfl : k = 16 := by omega
      replace hX := hX.icongr (h := adds a b) (fun j hj => by
        unfold mix adds
        by_cases e : j < 16
        · rw [if_pos e, if_pos e]
        · rw [if_neg e, if_neg e])
      clear hlt hk
      have hGp := HG.out.grown hX.gw
      repeat ((fail_if_success (with_reducible show Code.wp _ (Code.region _ _ _) _ _ _)); go_step)
      refine wp_plain [.imm (.int .i64 ((16 : Nat) : Int)), .imm (.bool false)] (by kernel_rfl) (fun β => ?_) (fun β w4 hD => ?_)
      · refine Obs.cons (Ob.imm rfl (fun w => by kernel_rfl)) ?_
        refine Obs.cons (Ob.imm rfl (fun w => by kernel_rfl)) ?_
        exact Obs.nil
      replace hX := hX.grown hD.gr
      replace hGp := hGp.grown hD.gr
      clear hD
      simp only [finAct, putAll, valsFrom, Plan.value, Act.put, List.setIfInBounds_toArray, List.set_cons_zero, List.set_cons_succ]
      repeat ((fail_if_success (with_reducible show Code.wp _ (Code.region _ _ _) _ _ _)); go_step)
      refine wp_plain_fin [.val (sv 32 (adds a b)), .val (sn ((a + b) % p)), .fin] bR 0 (fun _ => il 16 (d16 ((a + b) % p))) (by kernel_rfl) (fun β => ?_) (fun β w5 hD => ?_)
      · refine Obs.cons (Ob.load bG 0 (il 32 (adds a b)) rfl rfl (by kernel_rfl) hX.irange Tryd.underlying92 rfl (by rw [il_length]; exact infoW)) ?_
        refine Obs.cons (Ob.call 88 #[sv 32 (adds a b)] rfl (fun w => by kernel_rfl) (fun w hg => fold_r (adds a b) (a + b) (adds_cols ha hb) w (hGp.grown hg))) ?_
        refine Obs.cons (Ob.fin rfl (by rw [il_length]; exact hX.tr) rfl (by kernel_rfl) (by kernel_rfl) (by rw [il_length]; exact infoS) (il_one _ _)) ?_
        exact Obs.nil
      replace hX := hX.grown hD.gr
      have hr := World.rangeAt_setCells_same w5 bR 0 (il 16 (d16 ((a + b) % p))) (by rw [il_length]; exact hX.tr)
      have hW := grown_setCells hX.f2 (il 16 (d16 ((a + b) % p))) 0 hX.gw
      clear hD
      simp only [finAct, putAll, valsFrom, Plan.value, Act.put, List.setIfInBounds_toArray, List.set_cons_zero, List.set_cons_succ]
      repeat go_step
      refine bodyPost_ret (v := sn ((a + b) % p)) (result_cells Tryd.results64 _ _ bR (il 16 (d16 ((a + b) % p))) ?hp hr Tryd.underlying45 rfl (by rw [il_length]; exact infoS)) ?hd ?_
      case hp => rfl
      case hd => rfl
      exact ⟨rfl, hW⟩

set_option maxRecDepth 100000 in
set_option maxHeartbeats 8000000 in
theorem Times_r (a b : Nat) (ha : a < S256) (hb : b < S256) (w : World) (hpr : Gp w) : Calls Tryd.prog 63 #[sn a, sn b] w fun e w' => e = .returned (sn (a * b % p)) ∧ Grown w w' := by
  have HG := Hid.of hpr
  clear hpr
  go_enter Tryd.func63, Tryd.ntmps63
  repeat ((fail_if_success (with_reducible show Code.wp _ (Code.region _ _ _) _ _ _)); go_step)
  refine wp_plain [.box 45 (il 16 (d16 a)), .box 45 (il 16 (d16 b)), .new 45 16] (by kernel_rfl) (fun β => ?_) (fun β w1 hD => ?_)
  · refine Obs.cons (Ob.box rfl rfl (by kernel_rfl)) ?_
    refine Obs.cons (Ob.box rfl rfl (by kernel_rfl)) ?_
    refine Obs.cons (Ob.new _ rfl rfl zeroS (by simp [il_length])) ?_
    exact Obs.nil
  have hr0 := (hD.bx 0 _ _ rfl).2
  have hr1 := (hD.bx 1 _ _ rfl).2
  obtain ⟨hf2, ht2⟩ := hD.nw 2 _ _ rfl
  have hW := hD.gr
  clear hD
  simp only [finAct, putAll, valsFrom, Plan.value, Act.put, List.setIfInBounds_toArray, List.set_cons_zero, List.set_cons_succ]
  generalize β 0 = b0 at *
  generalize β (0 + 1) = b1 at *
  generalize β (0 + 1 + 1) = bR at *
  repeat ((fail_if_success (with_reducible show Code.wp _ (Code.region _ _ _) _ _ _)); go_step)
  refine wp_plain [.box 92 (il 32 fun _ => 0)] (by kernel_rfl) (fun β => ?_) (fun β w2 hD => ?_)
  · refine Obs.cons (Ob.newz (il 32 fun _ => 0) rfl rfl zeroW) ?_
    exact Obs.nil
  obtain ⟨hf3, hr3⟩ := hD.bx 0 _ _ rfl
  have hb2 : bR < w1.heap.size := there_lt' ht2 (by decide)
  have hP0 : KX w 32 (β 0) bR 16 (iF fun _ => 0) [(b0, il 16 (d16 a)), (b1, il 16 (d16 b))] w2 := ⟨fun j hj => cell_i hr3 hj, fun j => (hD.gr.2.1 _).trans (frozen_past hf3), fun q hq => by
      rcases List.mem_cons.1 hq with rfl | hq
      · exact ⟨rangeAt_grown hr0 hD.gr, ne_of_freshI hr0 (by decide) hf3⟩
      obtain rfl := List.mem_singleton.1 hq
      exact ⟨rangeAt_grown hr1 hD.gr, ne_of_freshI hr1 (by decide) hf3⟩,
      there_grown ht2 hD.gr, by omega, Nat.le_trans hW.2.2 hf3, hf2, grown_trans hW hD.gr⟩
  clear hD hf2 ht2 hW hf3 hr3 hb2 hr0 hr1
  simp only [finAct, putAll, valsFrom, Plan.value, Act.put, List.setIfInBounds_toArray, List.set_cons_zero, List.set_cons_succ]
  generalize β 0 = bG at *
  go_wp2
  go_loopw [6] (fun v wr => ∃ (i : Nat) (R : Nat → Int), v = .int .i64 (i : Int) ∧ i ≤ 16 ∧ KX w 32 bG bR 16 (iF R) [(b0, il 16 (d16 a)), (b1, il 16 (d16 b))] wr ∧ PQ (d16 a) (d16 b) R i 0) (fun v _ => (16 - intOf v).toNat)
  case atStart => exact ⟨0, fun _ => 0, rfl, by decide, hP0, PQ.start _ _⟩
  case round =>
    obtain ⟨i, R, rfl, hi, hX, hQ⟩ := hrel
    clear hP0
    by_cases hlt : i < 16
    · have k1 : (i : Int) < 16 := by omega
      have d1 := cell_i (hX.arg b0 _ (List.mem_cons_self ..)) hlt
      have HX := Hid.of (And.intro hX hQ)
      have hii := Hid.of hlt
      have hia := Hid.of (d16_in a 16 i hlt)
      obtain ⟨x, ex0⟩ : ∃ x, x = d16 a i := ⟨_, rfl⟩
      rw [← ex0] at d1 hia
      have ex := Hid.of ex0
      clear hX hQ hi hlt ex0
      go_wp2
      go_loopw [8] (fun v8 wr' => ∃ (j : Nat) (R : Nat → Int), v8 = .int .i64 (j : Int) ∧ j ≤ 16 ∧ KX w 32 bG bR 16 (iF R) [(b0, il 16 (d16 a)), (b1, il 16 (d16 b))] wr' ∧ PQ (d16 a) (d16 b) R i j) (fun v8 _ => (16 - intOf v8).toNat)
      case atStart => exact ⟨0, R, rfl, by decide, HX.out.1, HX.out.2⟩
      case round =>
        clear d1 HX
        obtain ⟨j, R, rfl, hj, hX, hQ⟩ := hrel
        by_cases hlt : j < 16
        · have k1 : (j : Int) < 16 := by omega
          have HX := Hid.of (hX.grown (gdrew wr))
          have HQ := Hid.of hQ
          have hjj := Hid.of hlt
          clear hX hQ hj hlt
          go_wp2
          have hlt := hjj.out
          have hi := hii.out
          have hX := HX.out
          have hxa := hX.icell (j := i + j) (by omega)
          have hxb := cell_i (hX.arg b1 _ (List.mem_cons_of_mem _ (List.mem_cons_self ..))) hlt
          have hx := hia.out
          have hy := d16_in b 16 j hlt
          have hb := HQ.out.bd (i + j) (by omega)
          have hst := HQ.out.step hi hlt (d16_in a 16) (d16_in b 16)
          rw [← ex.out] at hst
          have hup : upq R (i + j) (x * d16 b j) (i + j) = R (i + j) + x * d16 b j := upq_self _ _ _
          obtain ⟨r, er⟩ : ∃ r, r = R (i + j) := ⟨_, rfl⟩
          obtain ⟨y, ey⟩ : ∃ y, y = d16 b j := ⟨_, rfl⟩
          rw [← er] at hxa hb hup
          rw [← ey] at hxb hy hst hup
          have hm := mul16 hx hy
          refine wp_loose_fin [.imm (.int .i64 (i : Int)), .imm (.int .i64 (j : Int)), .imm (.int .i64 ((i + j : Nat) : Int)), .imm (.int .i64 (i : Int)), .imm (.int .i64 (j : Int)), .imm (.int .i64 ((i + j : Nat) : Int)), .imm (.pointer (some ⟨bG, i + j, none⟩)), .val (.int .i64 r), .imm (.int .i64 x), .imm (.int .i64 (j : Int)), .imm (.pointer (some ⟨b1, j, none⟩)), .val (.int .i64 y), .imm (.int .i64 (x * y)), .imm (.int .i64 (r + x * y)), .imm (.pointer (some ⟨bG, i + j, none⟩)), .fin] bG (i + j) (fun _ => [.int .i64 (r + x * y)]) (by kernel_rfl) (by kernel_rfl) (fun β => ?_) (fun β w4 hD => ?_)
          · refine Obs.cons (Ob.imm rfl (fun w => by kernel_rfl)) ?_
            refine Obs.cons (Ob.imm rfl (fun w => by kernel_rfl)) ?_
            refine Obs.cons (Ob.imm rfl (fun w => exec_addI (i : Int) (j : Int) _ rfl (by kernel_rfl) (by kernel_rfl) (by rw [IntKind.wrap_i64]; omega))) ?_
            refine Obs.cons (Ob.imm rfl (fun w => by kernel_rfl)) ?_
            refine Obs.cons (Ob.imm rfl (fun w => by kernel_rfl)) ?_
            refine Obs.cons (Ob.imm rfl (fun w => exec_addI (i : Int) (j : Int) _ rfl (by kernel_rfl) (by kernel_rfl) (by rw [IntKind.wrap_i64]; omega))) ?_
            refine Obs.cons (Ob.imm rfl (fun w => exec_idxW (i + j) (by omega) rfl (by kernel_rfl) (by kernel_rfl))) ?_
            refine Obs.cons (Ob.load1 bG (i + j) rfl rfl (by kernel_rfl) (block_lt_of_cell hxa) hxa (fun w h => run_loadI w h)) ?_
            refine Obs.cons (Ob.imm rfl (fun w => by kernel_rfl)) ?_
            refine Obs.cons (Ob.imm rfl (fun w => by kernel_rfl)) ?_
            refine Obs.cons (Ob.imm rfl (fun w => exec_idxS j hlt rfl (by kernel_rfl) (by kernel_rfl))) ?_
            refine Obs.cons (Ob.load1 b1 j rfl rfl (by kernel_rfl) (block_lt_of_cell hxb) hxb (fun w h => run_loadI w h)) ?_
            refine Obs.cons (Ob.imm rfl (fun w => exec_mulI' x y _ rfl (by kernel_rfl) (by kernel_rfl) (by rw [IntKind.wrap_i64]; omega))) ?_
            refine Obs.cons (Ob.imm rfl (fun w => exec_addI r (x * y) _ rfl (by kernel_rfl) (by kernel_rfl) (by rw [IntKind.wrap_i64]; omega))) ?_
            refine Obs.cons (Ob.imm rfl (fun w => exec_idxW (i + j) (by omega) rfl (by kernel_rfl) (by kernel_rfl))) ?_
            refine Obs.cons (Ob.fin1 (.int .i64 (r + x * y)) rfl rfl (hX.cellthere (by omega)) rfl (by kernel_rfl) (by kernel_rfl) (fun w v0 h hf => run_storeI w v0 h hf)) ?_
            exact Obs.nil
          have hS := Hid.of ((hX.grown hD.gr).iset (upq R (i + j) (x * y)) (i + j) (by omega) (r + x * y) hup (upq_other _ _ _))
          have hT := Hid.of hst
          clear hD hX HX HQ hxa hxb hx hy hb hst hup er ey hm hi hlt
          simp only [finAct, putAll, valsFrom, Plan.value, Act.put, List.setIfInBounds_toArray, List.set_cons_zero, List.set_cons_succ]
          go_wp2
          go_roundw
          case rel => exact ⟨j + 1, _, by simp, hjj.out, hS.out, hT.out⟩
          case measure => have := hjj.out; simp [intOf]; omega
        · obtain rfl : j = 16 := by omega
          have HX := Hid.of (And.intro hX hQ.next)
          clear hX hQ hj hlt
          go_wp2
          go_roundw
          case rel => exact ⟨i + 1, _, by simp, hii.out, HX.out.1, HX.out.2⟩
          case measure => have := hii.out; simp [intOf]; omega
    · obtain rfl : i = 16 := by omega
      have hcols := hQ.cols ha hb
      clear hlt hi hQ
      have hGp := HG.out.grown hX.gw
      repeat ((fail_if_success (with_reducible show Code.wp _ (Code.region _ _ _) _ _ _)); go_step)
      refine wp_plain [.imm (.int .i64 ((16 : Nat) : Int)), .imm (.bool false)] (by kernel_rfl) (fun β => ?_) (fun β w4 hD => ?_)
      · refine Obs.cons (Ob.imm rfl (fun w => by kernel_rfl)) ?_
        refine Obs.cons (Ob.imm rfl (fun w => by kernel_rfl)) ?_
        exact Obs.nil
      replace hX := hX.grown hD.gr
      replace hGp := hGp.grown hD.gr
      clear hD
      simp only [finAct, putAll, valsFrom, Plan.value, Act.put, List.setIfInBounds_toArray, List.set_cons_zero, List.set_cons_succ]
      repeat ((fail_if_success (with_reducible show Code.wp _ (Code.region _ _ _) _ _ _)); go_step)
      refine wp_plain_fin [.val (sv 32 (R)), .val (sn ((a * b) % p)), .fin] bR 0 (fun _ => il 16 (d16 ((a * b) % p))) (by kernel_rfl) (fun β => ?_) (fun β w5 hD => ?_)
      · refine Obs.cons (Ob.load bG 0 (il 32 (R)) rfl rfl (by kernel_rfl) hX.irange Tryd.underlying92 rfl (by rw [il_length]; exact infoW)) ?_
        refine Obs.cons (Ob.call 88 #[sv 32 (R)] rfl (fun w => by kernel_rfl) (fun w hg => fold_r (R) (a * b) hcols w (hGp.grown hg))) ?_
        refine Obs.cons (Ob.fin rfl (by rw [il_length]; exact hX.tr) rfl (by kernel_rfl) (by kernel_rfl) (by rw [il_length]; exact infoS) (il_one _ _)) ?_
        exact Obs.nil
      replace hX := hX.grown hD.gr
      have hr := World.rangeAt_setCells_same w5 bR 0 (il 16 (d16 ((a * b) % p))) (by rw [il_length]; exact hX.tr)
      have hW := grown_setCells hX.f2 (il 16 (d16 ((a * b) % p))) 0 hX.gw
      clear hD
      simp only [finAct, putAll, valsFrom, Plan.value, Act.put, List.setIfInBounds_toArray, List.set_cons_zero, List.set_cons_succ]
      repeat go_step
      refine bodyPost_ret (v := sn ((a * b) % p)) (result_cells Tryd.results63 _ _ bR (il 16 (d16 ((a * b) % p))) ?hp hr Tryd.underlying45 rfl (by rw [il_length]; exact infoS)) ?hd ?_
      case hp => rfl
      case hd => rfl
      exact ⟨rfl, hW⟩

end Go.Proofs.YtkegcilcapnpdaaDoor

namespace Go.Proofs.YtkegcilcapnpdaaDoor
open Go.RowKit Go.Shelf FieldNum

theorem mod_S (n : Nat) : n % p < S256 := mod_lt256 n
theorem one_S : 1 < S256 := by decide
theorem pl_S (a : Nat) : (p - a % p) < S256 := Nat.lt_of_le_of_lt (Nat.sub_le _ _) p_S
set_option maxRecDepth 100000 in
set_option maxHeartbeats 4000000 in
theorem From_r (a : Nat) (ha : a < S256) (w : World) (hGl0 : Gp w) : Calls Tryd.prog 62 #[bv (a)] w fun e w' => e = .returned (sn (a % p)) ∧ Grown w w' := by
  have hW := Grown.refl w
  have hGl := hGl0
  go_enter Tryd.func62, Tryd.ntmps62
  repeat ((fail_if_success (with_reducible show Code.wp _ (Code.region _ _ _) _ _ _)); go_step)
  refine wp_plain [.box 23 (bl (a)), .new 45 16] (by kernel_rfl) (fun β => ?_) (fun β w1 hD => ?_)
  · refine Obs.cons (Ob.box rfl rfl (by kernel_rfl)) ?_
    refine Obs.cons (Ob.new _ rfl rfl zeroS (by simp [il_length])) ?_
    exact Obs.nil
  obtain ⟨hf_b0, hr_b0⟩ := hD.bx 0 _ _ rfl
  replace hf_b0 := Nat.le_trans hW.2.2 hf_b0
  obtain ⟨hf_b1, ht_b1⟩ := hD.nw 1 _ _ rfl
  replace hf_b1 := Nat.le_trans hW.2.2 hf_b1
  replace hW := grown_trans hW hD.gr
  clear hD
  simp only [finAct, putAll, valsFrom, Plan.value, Act.put, List.setIfInBounds_toArray, List.set_cons_zero, List.set_cons_succ]
  replace hGl := hGl0.grown hW
  generalize β 0 = b0 at *
  generalize β (0 + 1) = b1 at *
  repeat ((fail_if_success (with_reducible show Code.wp _ (Code.region _ _ _) _ _ _)); go_step)
  refine wp_plain [.val (bv (a)), .val (sn (a)), .new 45 16, .put 2 2 (fun _ => il 16 (d16 (a)))] (by kernel_rfl) (fun β => ?_) (fun β w2 hD => ?_)
  · refine Obs.cons (Ob.load (b0) 0 (bl (a)) rfl rfl (by kernel_rfl) hr_b0 Tryd.underlying23 rfl (by rw [bl_length]; exact info32)) ?_
    refine Obs.cons (Ob.call 86 #[bv (a)] rfl (fun w => by kernel_rfl) (fun w hg => Raw_r (a) w)) ?_
    refine Obs.cons (Ob.new _ rfl rfl zeroS (by simp [il_length])) ?_
    refine Obs.cons (Ob.put 45 rfl rfl rfl (by kernel_rfl) (by kernel_rfl) (by rw [il_length]; exact infoS) (il_one _ _)) ?_
    exact Obs.nil
  replace hr_b0 := rangeAt_grown hr_b0 hD.gr
  replace ht_b1 := there_grown ht_b1 hD.gr
  obtain ⟨hf_b2, ht_b2⟩ := hD.nw 2 _ _ rfl
  have hr_b2 : w2.rangeAt (β 2) 0 (il 16 (d16 (a))) := hD.rg 3 2 2 (fun _ => il 16 (d16 (a))) rfl
  replace hf_b2 := Nat.le_trans hW.2.2 hf_b2
  replace hW := grown_trans hW hD.gr
  clear hD
  simp only [finAct, putAll, valsFrom, Plan.value, Act.put, List.setIfInBounds_toArray, List.set_cons_zero, List.set_cons_succ]
  replace hGl := hGl0.grown hW
  generalize β (0 + 1 + 1) = b2 at *
  repeat ((fail_if_success (with_reducible show Code.wp _ (Code.region _ _ _) _ _ _)); go_step)
  refine wp_plain_fin [.val (sn (a)), .val (sn ((a) % p)), .fin] (b1) 0 (fun _ => il 16 (d16 ((a) % p))) (by kernel_rfl) (fun β => ?_) (fun β w3 hD => ?_)
  · refine Obs.cons (Ob.load (b2) 0 (il 16 (d16 (a))) rfl rfl (by kernel_rfl) hr_b2 Tryd.underlying45 rfl (by rw [il_length]; exact infoS)) ?_
    refine Obs.cons (Ob.call 87 #[sn (a)] rfl (fun w => by kernel_rfl) (fun w hg => fit_r (a) ha w (hGl.grown hg))) ?_
    refine Obs.cons (Ob.fin rfl (by rw [il_length]; exact ht_b1) rfl (by kernel_rfl) (by kernel_rfl) (by rw [il_length]; exact infoS) (il_one _ _)) ?_
    exact Obs.nil
  replace hr_b0 := rangeAt_grown hr_b0 hD.gr
  replace hr_b2 := rangeAt_grown hr_b2 hD.gr
  replace ht_b1 := there_grown ht_b1 hD.gr
  replace ht_b2 := there_grown ht_b2 hD.gr
  replace hW := grown_trans hW hD.gr
  clear hD
  simp only [finAct, putAll, valsFrom, Plan.value, Act.put, List.setIfInBounds_toArray, List.set_cons_zero, List.set_cons_succ]
  replace hGl := hGl0.grown hW
  have hs3 := World.rangeAt_setCells_same w3 (b1) 0 (il 16 (d16 ((a) % p))) (by rw [il_length]; exact ht_b1)
  replace hW := grown_setCells hf_b1 (il 16 (d16 ((a) % p))) 0 hW
  generalize w3.setCells (b1) 0 (il 16 (d16 ((a) % p))) = w3s at *
  repeat go_step
  refine bodyPost_ret (v := sn ((a) % p)) (result_cells Tryd.results62 _ _ (b1) _ ?hp hs3 Tryd.underlying45 rfl (by rw [il_length]; exact infoS)) ?hd ?_
  case hp => rfl
  case hd => rfl
  exact ⟨rfl, hW⟩

theorem sb_S (a b : Nat) : sb a b < S256 := mod_lt256 _
set_option maxRecDepth 100000 in
set_option maxHeartbeats 4000000 in
theorem Minus_r (a b : Nat) (ha : a < S256) (hb : b < S256) (w : World) (hGl0 : Gp w) : Calls Tryd.prog 66 #[sn (a), sn (b)] w fun e w' => e = .returned (sn (sb (a % p) b)) ∧ Grown w w' := by
  have hW := Grown.refl w
  have hGl := hGl0
  go_enter Tryd.func66, Tryd.ntmps66
  repeat ((fail_if_success (with_reducible show Code.wp _ (Code.region _ _ _) _ _ _)); go_step)
  refine wp_plain [.box 45 (il 16 (d16 (a))), .box 45 (il 16 (d16 (b))), .new 45 16] (by kernel_rfl) (fun β => ?_) (fun β w1 hD => ?_)
  · refine Obs.cons (Ob.box rfl rfl (by kernel_rfl)) ?_
    refine Obs.cons (Ob.box rfl rfl (by kernel_rfl)) ?_
    refine Obs.cons (Ob.new _ rfl rfl zeroS (by simp [il_length])) ?_
    exact Obs.nil
  obtain ⟨hf_b0, hr_b0⟩ := hD.bx 0 _ _ rfl
  replace hf_b0 := Nat.le_trans hW.2.2 hf_b0
  obtain ⟨hf_b1, hr_b1⟩ := hD.bx 1 _ _ rfl
  replace hf_b1 := Nat.le_trans hW.2.2 hf_b1
  obtain ⟨hf_b2, ht_b2⟩ := hD.nw 2 _ _ rfl
  replace hf_b2 := Nat.le_trans hW.2.2 hf_b2
  replace hW := grown_trans hW hD.gr
  clear hD
  simp only [finAct, putAll, valsFrom, Plan.value, Act.put, List.setIfInBounds_toArray, List.set_cons_zero, List.set_cons_succ]
  replace hGl := hGl0.grown hW
  generalize β 0 = b0 at *
  generalize β (0 + 1) = b1 at *
  generalize β (0 + 1 + 1) = b2 at *
  repeat ((fail_if_success (with_reducible show Code.wp _ (Code.region _ _ _) _ _ _)); go_step)
  refine wp_plain [.val (sn (a)), .val (sn ((a) % p)), .new 45 16, .put 2 2 (fun _ => il 16 (d16 ((a) % p)))] (by kernel_rfl) (fun β => ?_) (fun β w2 hD => ?_)
  · refine Obs.cons (Ob.load (b0) 0 (il 16 (d16 (a))) rfl rfl (by kernel_rfl) hr_b0 Tryd.underlying45 rfl (by rw [il_length]; exact infoS)) ?_
    refine Obs.cons (Ob.call 87 #[sn (a)] rfl (fun w => by kernel_rfl) (fun w hg => fit_r (a) ha w (hGl.grown hg))) ?_
    refine Obs.cons (Ob.new _ rfl rfl zeroS (by simp [il_length])) ?_
    refine Obs.cons (Ob.put 45 rfl rfl rfl (by kernel_rfl) (by kernel_rfl) (by rw [il_length]; exact infoS) (il_one _ _)) ?_
    exact Obs.nil
  replace hr_b0 := rangeAt_grown hr_b0 hD.gr
  replace hr_b1 := rangeAt_grown hr_b1 hD.gr
  replace ht_b2 := there_grown ht_b2 hD.gr
  obtain ⟨hf_b3, ht_b3⟩ := hD.nw 2 _ _ rfl
  have hr_b3 : w2.rangeAt (β 2) 0 (il 16 (d16 ((a) % p))) := hD.rg 3 2 2 (fun _ => il 16 (d16 ((a) % p))) rfl
  replace hf_b3 := Nat.le_trans hW.2.2 hf_b3
  replace hW := grown_trans hW hD.gr
  clear hD
  simp only [finAct, putAll, valsFrom, Plan.value, Act.put, List.setIfInBounds_toArray, List.set_cons_zero, List.set_cons_succ]
  replace hGl := hGl0.grown hW
  generalize β (0 + 1 + 1) = b3 at *
  repeat ((fail_if_success (with_reducible show Code.wp _ (Code.region _ _ _) _ _ _)); go_step)
  refine wp_plain [.val (sn (b)), .val (sn ((b) % p)), .new 45 16, .put 2 2 (fun _ => il 16 (d16 ((b) % p)))] (by kernel_rfl) (fun β => ?_) (fun β w3 hD => ?_)
  · refine Obs.cons (Ob.load (b1) 0 (il 16 (d16 (b))) rfl rfl (by kernel_rfl) hr_b1 Tryd.underlying45 rfl (by rw [il_length]; exact infoS)) ?_
    refine Obs.cons (Ob.call 87 #[sn (b)] rfl (fun w => by kernel_rfl) (fun w hg => fit_r (b) hb w (hGl.grown hg))) ?_
    refine Obs.cons (Ob.new _ rfl rfl zeroS (by simp [il_length])) ?_
    refine Obs.cons (Ob.put 45 rfl rfl rfl (by kernel_rfl) (by kernel_rfl) (by rw [il_length]; exact infoS) (il_one _ _)) ?_
    exact Obs.nil
  replace hr_b0 := rangeAt_grown hr_b0 hD.gr
  replace hr_b1 := rangeAt_grown hr_b1 hD.gr
  replace hr_b3 := rangeAt_grown hr_b3 hD.gr
  replace ht_b2 := there_grown ht_b2 hD.gr
  replace ht_b3 := there_grown ht_b3 hD.gr
  obtain ⟨hf_b4, ht_b4⟩ := hD.nw 2 _ _ rfl
  have hr_b4 : w3.rangeAt (β 2) 0 (il 16 (d16 ((b) % p))) := hD.rg 3 2 2 (fun _ => il 16 (d16 ((b) % p))) rfl
  replace hf_b4 := Nat.le_trans hW.2.2 hf_b4
  replace hW := grown_trans hW hD.gr
  clear hD
  simp only [finAct, putAll, valsFrom, Plan.value, Act.put, List.setIfInBounds_toArray, List.set_cons_zero, List.set_cons_succ]
  replace hGl := hGl0.grown hW
  generalize β (0 + 1 + 1) = b4 at *
  repeat ((fail_if_success (with_reducible show Code.wp _ (Code.region _ _ _) _ _ _)); go_step)
  refine wp_plain [.val (sn (p)), .new 45 16, .put 1 1 (fun _ => il 16 (d16 (p)))] (by kernel_rfl) (fun β => ?_) (fun β w4 hD => ?_)
  · refine Obs.cons (Ob.call 40 #[] rfl (fun w => by kernel_rfl) (fun w hg => P_r p w (hGl.grown hg))) ?_
    refine Obs.cons (Ob.new _ rfl rfl zeroS (by simp [il_length])) ?_
    refine Obs.cons (Ob.put 45 rfl rfl rfl (by kernel_rfl) (by kernel_rfl) (by rw [il_length]; exact infoS) (il_one _ _)) ?_
    exact Obs.nil
  replace hr_b0 := rangeAt_grown hr_b0 hD.gr
  replace hr_b1 := rangeAt_grown hr_b1 hD.gr
  replace hr_b3 := rangeAt_grown hr_b3 hD.gr
  replace hr_b4 := rangeAt_grown hr_b4 hD.gr
  replace ht_b2 := there_grown ht_b2 hD.gr
  replace ht_b3 := there_grown ht_b3 hD.gr
  replace ht_b4 := there_grown ht_b4 hD.gr
  obtain ⟨hf_b5, ht_b5⟩ := hD.nw 1 _ _ rfl
  have hr_b5 : w4.rangeAt (β 1) 0 (il 16 (d16 (p))) := hD.rg 2 1 1 (fun _ => il 16 (d16 (p))) rfl
  replace hf_b5 := Nat.le_trans hW.2.2 hf_b5
  replace hW := grown_trans hW hD.gr
  clear hD
  simp only [finAct, putAll, valsFrom, Plan.value, Act.put, List.setIfInBounds_toArray, List.set_cons_zero, List.set_cons_succ]
  replace hGl := hGl0.grown hW
  generalize β (0 + 1) = b5 at *
  repeat ((fail_if_success (with_reducible show Code.wp _ (Code.region _ _ _) _ _ _)); go_step)
  refine wp_plain [.val (sn (p)), .val (sn ((b) % p)), .val (sn ((p) - ((b) % p))), .new 45 16, .put 3 3 (fun _ => il 16 (d16 ((p) - ((b) % p))))] (by kernel_rfl) (fun β => ?_) (fun β w5 hD => ?_)
  · refine Obs.cons (Ob.load (b5) 0 (il 16 (d16 (p))) rfl rfl (by kernel_rfl) hr_b5 Tryd.underlying45 rfl (by rw [il_length]; exact infoS)) ?_
    refine Obs.cons (Ob.load (b4) 0 (il 16 (d16 ((b) % p))) rfl rfl (by kernel_rfl) hr_b4 Tryd.underlying45 rfl (by rw [il_length]; exact infoS)) ?_
    refine Obs.cons (Ob.call 90 #[sn (p), sn ((b) % p)] rfl (fun w => by kernel_rfl) (fun w hg => less_r (p) ((b) % p) p_S (Nat.le_of_lt (Nat.mod_lt _ p_pos)) w)) ?_
    refine Obs.cons (Ob.new _ rfl rfl zeroS (by simp [il_length])) ?_
    refine Obs.cons (Ob.put 45 rfl rfl rfl (by kernel_rfl) (by kernel_rfl) (by rw [il_length]; exact infoS) (il_one _ _)) ?_
    exact Obs.nil
  replace hr_b0 := rangeAt_grown hr_b0 hD.gr
  replace hr_b1 := rangeAt_grown hr_b1 hD.gr
  replace hr_b3 := rangeAt_grown hr_b3 hD.gr
  replace hr_b4 := rangeAt_grown hr_b4 hD.gr
  replace hr_b5 := rangeAt_grown hr_b5 hD.gr
  replace ht_b2 := there_grown ht_b2 hD.gr
  replace ht_b3 := there_grown ht_b3 hD.gr
  replace ht_b4 := there_grown ht_b4 hD.gr
  replace ht_b5 := there_grown ht_b5 hD.gr
  obtain ⟨hf_b6, ht_b6⟩ := hD.nw 3 _ _ rfl
  have hr_b6 : w5.rangeAt (β 3) 0 (il 16 (d16 ((p) - ((b) % p)))) := hD.rg 4 3 3 (fun _ => il 16 (d16 ((p) - ((b) % p)))) rfl
  replace hf_b6 := Nat.le_trans hW.2.2 hf_b6
  replace hW := grown_trans hW hD.gr
  clear hD
  simp only [finAct, putAll, valsFrom, Plan.value, Act.put, List.setIfInBounds_toArray, List.set_cons_zero, List.set_cons_succ]
  replace hGl := hGl0.grown hW
  generalize β (0 + 1 + 1 + 1) = b6 at *
  repeat ((fail_if_success (with_reducible show Code.wp _ (Code.region _ _ _) _ _ _)); go_step)
  refine wp_plain_fin [.val (sn ((a) % p)), .val (sn ((p) - ((b) % p))), .val (sn ((((a) % p) + ((p) - ((b) % p))) % p)), .fin] (b2) 0 (fun _ => il 16 (d16 ((((a) % p) + ((p) - ((b) % p))) % p))) (by kernel_rfl) (fun β => ?_) (fun β w6 hD => ?_)
  · refine Obs.cons (Ob.load (b3) 0 (il 16 (d16 ((a) % p))) rfl rfl (by kernel_rfl) hr_b3 Tryd.underlying45 rfl (by rw [il_length]; exact infoS)) ?_
    refine Obs.cons (Ob.load (b6) 0 (il 16 (d16 ((p) - ((b) % p)))) rfl rfl (by kernel_rfl) hr_b6 Tryd.underlying45 rfl (by rw [il_length]; exact infoS)) ?_
    refine Obs.cons (Ob.call 64 #[sn ((a) % p), sn ((p) - ((b) % p))] rfl (fun w => by kernel_rfl) (fun w hg => Plus_r ((a) % p) ((p) - ((b) % p)) (mod_S _) (Nat.lt_of_le_of_lt (Nat.sub_le _ _) p_S) w (hGl.grown hg))) ?_
    refine Obs.cons (Ob.fin rfl (by rw [il_length]; exact ht_b2) rfl (by kernel_rfl) (by kernel_rfl) (by rw [il_length]; exact infoS) (il_one _ _)) ?_
    exact Obs.nil
  replace hr_b0 := rangeAt_grown hr_b0 hD.gr
  replace hr_b1 := rangeAt_grown hr_b1 hD.gr
  replace hr_b3 := rangeAt_grown hr_b3 hD.gr
  replace hr_b4 := rangeAt_grown hr_b4 hD.gr
  replace hr_b5 := rangeAt_grown hr_b5 hD.gr
  replace hr_b6 := rangeAt_grown hr_b6 hD.gr
  replace ht_b2 := there_grown ht_b2 hD.gr
  replace ht_b3 := there_grown ht_b3 hD.gr
  replace ht_b4 := there_grown ht_b4 hD.gr
  replace ht_b5 := there_grown ht_b5 hD.gr
  replace ht_b6 := there_grown ht_b6 hD.gr
  replace hW := grown_trans hW hD.gr
  clear hD
  simp only [finAct, putAll, valsFrom, Plan.value, Act.put, List.setIfInBounds_toArray, List.set_cons_zero, List.set_cons_succ]
  replace hGl := hGl0.grown hW
  have hs6 := World.rangeAt_setCells_same w6 (b2) 0 (il 16 (d16 ((((a) % p) + ((p) - ((b) % p))) % p))) (by rw [il_length]; exact ht_b2)
  replace hW := grown_setCells hf_b2 (il 16 (d16 ((((a) % p) + ((p) - ((b) % p))) % p))) 0 hW
  generalize w6.setCells (b2) 0 (il 16 (d16 ((((a) % p) + ((p) - ((b) % p))) % p))) = w6s at *
  repeat go_step
  refine bodyPost_ret (v := sn ((((a) % p) + ((p) - ((b) % p))) % p)) (result_cells Tryd.results66 _ _ (b2) _ ?hp hs6 Tryd.underlying45 rfl (by rw [il_length]; exact infoS)) ?hd ?_
  case hp => rfl
  case hd => rfl
  exact ⟨rfl, hW⟩

set_option maxRecDepth 100000 in
set_option maxHeartbeats 4000000 in
theorem MulR_raw (a b : Nat) (ha : a < S256) (hb : b < S256) (w : World) (hGl0 : Gp w) : Calls Tryd.prog 23 #[bv (a), bv (b)] w fun e w' => e = .returned (bv ((a % p) * (b % p) % p)) ∧ Grown w w' := by
  have hW := Grown.refl w
  have hGl := hGl0
  go_enter Tryd.func23, Tryd.ntmps23
  repeat ((fail_if_success (with_reducible show Code.wp _ (Code.region _ _ _) _ _ _)); go_step)
  refine wp_plain [.box 23 (bl (a)), .box 23 (bl (b)), .new 23 32] (by kernel_rfl) (fun β => ?_) (fun β w1 hD => ?_)
  · refine Obs.cons (Ob.box rfl rfl (by kernel_rfl)) ?_
    refine Obs.cons (Ob.box rfl rfl (by kernel_rfl)) ?_
    refine Obs.cons (Ob.new _ rfl rfl zero32.1 (by simp [bl_length])) ?_
    exact Obs.nil
  obtain ⟨hf_b0, hr_b0⟩ := hD.bx 0 _ _ rfl
  replace hf_b0 := Nat.le_trans hW.2.2 hf_b0
  obtain ⟨hf_b1, hr_b1⟩ := hD.bx 1 _ _ rfl
  replace hf_b1 := Nat.le_trans hW.2.2 hf_b1
  obtain ⟨hf_b2, ht_b2⟩ := hD.nw 2 _ _ rfl
  replace hf_b2 := Nat.le_trans hW.2.2 hf_b2
  replace hW := grown_trans hW hD.gr
  clear hD
  simp only [finAct, putAll, valsFrom, Plan.value, Act.put, List.setIfInBounds_toArray, List.set_cons_zero, List.set_cons_succ]
  replace hGl := hGl0.grown hW
  generalize β 0 = b0 at *
  generalize β (0 + 1) = b1 at *
  generalize β (0 + 1 + 1) = b2 at *
  repeat ((fail_if_success (with_reducible show Code.wp _ (Code.region _ _ _) _ _ _)); go_step)
  refine wp_plain [.val (bv (a)), .val (sn ((a) % p)), .new 45 16, .put 2 2 (fun _ => il 16 (d16 ((a) % p)))] (by kernel_rfl) (fun β => ?_) (fun β w2 hD => ?_)
  · refine Obs.cons (Ob.load (b0) 0 (bl (a)) rfl rfl (by kernel_rfl) hr_b0 Tryd.underlying23 rfl (by rw [bl_length]; exact info32)) ?_
    refine Obs.cons (Ob.call 62 #[bv (a)] rfl (fun w => by kernel_rfl) (fun w hg => From_r (a) ha w (hGl.grown hg))) ?_
    refine Obs.cons (Ob.new _ rfl rfl zeroS (by simp [il_length])) ?_
    refine Obs.cons (Ob.put 45 rfl rfl rfl (by kernel_rfl) (by kernel_rfl) (by rw [il_length]; exact infoS) (il_one _ _)) ?_
    exact Obs.nil
  replace hr_b0 := rangeAt_grown hr_b0 hD.gr
  replace hr_b1 := rangeAt_grown hr_b1 hD.gr
  replace ht_b2 := there_grown ht_b2 hD.gr
  obtain ⟨hf_b3, ht_b3⟩ := hD.nw 2 _ _ rfl
  have hr_b3 : w2.rangeAt (β 2) 0 (il 16 (d16 ((a) % p))) := hD.rg 3 2 2 (fun _ => il 16 (d16 ((a) % p))) rfl
  replace hf_b3 := Nat.le_trans hW.2.2 hf_b3
  replace hW := grown_trans hW hD.gr
  clear hD
  simp only [finAct, putAll, valsFrom, Plan.value, Act.put, List.setIfInBounds_toArray, List.set_cons_zero, List.set_cons_succ]
  replace hGl := hGl0.grown hW
  generalize β (0 + 1 + 1) = b3 at *
  repeat ((fail_if_success (with_reducible show Code.wp _ (Code.region _ _ _) _ _ _)); go_step)
  refine wp_plain [.val (bv (b)), .val (sn ((b) % p)), .new 45 16, .put 2 2 (fun _ => il 16 (d16 ((b) % p)))] (by kernel_rfl) (fun β => ?_) (fun β w3 hD => ?_)
  · refine Obs.cons (Ob.load (b1) 0 (bl (b)) rfl rfl (by kernel_rfl) hr_b1 Tryd.underlying23 rfl (by rw [bl_length]; exact info32)) ?_
    refine Obs.cons (Ob.call 62 #[bv (b)] rfl (fun w => by kernel_rfl) (fun w hg => From_r (b) hb w (hGl.grown hg))) ?_
    refine Obs.cons (Ob.new _ rfl rfl zeroS (by simp [il_length])) ?_
    refine Obs.cons (Ob.put 45 rfl rfl rfl (by kernel_rfl) (by kernel_rfl) (by rw [il_length]; exact infoS) (il_one _ _)) ?_
    exact Obs.nil
  replace hr_b0 := rangeAt_grown hr_b0 hD.gr
  replace hr_b1 := rangeAt_grown hr_b1 hD.gr
  replace hr_b3 := rangeAt_grown hr_b3 hD.gr
  replace ht_b2 := there_grown ht_b2 hD.gr
  replace ht_b3 := there_grown ht_b3 hD.gr
  obtain ⟨hf_b4, ht_b4⟩ := hD.nw 2 _ _ rfl
  have hr_b4 : w3.rangeAt (β 2) 0 (il 16 (d16 ((b) % p))) := hD.rg 3 2 2 (fun _ => il 16 (d16 ((b) % p))) rfl
  replace hf_b4 := Nat.le_trans hW.2.2 hf_b4
  replace hW := grown_trans hW hD.gr
  clear hD
  simp only [finAct, putAll, valsFrom, Plan.value, Act.put, List.setIfInBounds_toArray, List.set_cons_zero, List.set_cons_succ]
  replace hGl := hGl0.grown hW
  generalize β (0 + 1 + 1) = b4 at *
  repeat ((fail_if_success (with_reducible show Code.wp _ (Code.region _ _ _) _ _ _)); go_step)
  refine wp_plain [.val (sn ((a) % p)), .val (sn ((b) % p)), .val (sn (((a) % p) * ((b) % p) % p)), .new 45 16, .put 3 3 (fun _ => il 16 (d16 (((a) % p) * ((b) % p) % p)))] (by kernel_rfl) (fun β => ?_) (fun β w4 hD => ?_)
  · refine Obs.cons (Ob.load (b3) 0 (il 16 (d16 ((a) % p))) rfl rfl (by kernel_rfl) hr_b3 Tryd.underlying45 rfl (by rw [il_length]; exact infoS)) ?_
    refine Obs.cons (Ob.load (b4) 0 (il 16 (d16 ((b) % p))) rfl rfl (by kernel_rfl) hr_b4 Tryd.underlying45 rfl (by rw [il_length]; exact infoS)) ?_
    refine Obs.cons (Ob.call 63 #[sn ((a) % p), sn ((b) % p)] rfl (fun w => by kernel_rfl) (fun w hg => Times_r ((a) % p) ((b) % p) (mod_S _) (mod_S _) w (hGl.grown hg))) ?_
    refine Obs.cons (Ob.new _ rfl rfl zeroS (by simp [il_length])) ?_
    refine Obs.cons (Ob.put 45 rfl rfl rfl (by kernel_rfl) (by kernel_rfl) (by rw [il_length]; exact infoS) (il_one _ _)) ?_
    exact Obs.nil
  replace hr_b0 := rangeAt_grown hr_b0 hD.gr
  replace hr_b1 := rangeAt_grown hr_b1 hD.gr
  replace hr_b3 := rangeAt_grown hr_b3 hD.gr
  replace hr_b4 := rangeAt_grown hr_b4 hD.gr
  replace ht_b2 := there_grown ht_b2 hD.gr
  replace ht_b3 := there_grown ht_b3 hD.gr
  replace ht_b4 := there_grown ht_b4 hD.gr
  obtain ⟨hf_b5, ht_b5⟩ := hD.nw 3 _ _ rfl
  have hr_b5 : w4.rangeAt (β 3) 0 (il 16 (d16 (((a) % p) * ((b) % p) % p))) := hD.rg 4 3 3 (fun _ => il 16 (d16 (((a) % p) * ((b) % p) % p))) rfl
  replace hf_b5 := Nat.le_trans hW.2.2 hf_b5
  replace hW := grown_trans hW hD.gr
  clear hD
  simp only [finAct, putAll, valsFrom, Plan.value, Act.put, List.setIfInBounds_toArray, List.set_cons_zero, List.set_cons_succ]
  replace hGl := hGl0.grown hW
  generalize β (0 + 1 + 1 + 1) = b5 at *
  repeat ((fail_if_success (with_reducible show Code.wp _ (Code.region _ _ _) _ _ _)); go_step)
  refine wp_plain_fin [.val (sn (((a) % p) * ((b) % p) % p)), .val (bv (((a) % p) * ((b) % p) % p)), .fin] (b2) 0 (fun _ => bl (((a) % p) * ((b) % p) % p)) (by kernel_rfl) (fun β => ?_) (fun β w5 hD => ?_)
  · refine Obs.cons (Ob.load (b5) 0 (il 16 (d16 (((a) % p) * ((b) % p) % p))) rfl rfl (by kernel_rfl) hr_b5 Tryd.underlying45 rfl (by rw [il_length]; exact infoS)) ?_
    refine Obs.cons (Ob.call 38 #[sn (((a) % p) * ((b) % p) % p)] rfl (fun w => by kernel_rfl) (fun w hg => Bytes_r (((a) % p) * ((b) % p) % p) w)) ?_
    refine Obs.cons (Ob.fin rfl (by rw [bl_length]; exact ht_b2) rfl (by kernel_rfl) (by kernel_rfl) (by rw [bl_length]; exact info32) (bl_one _)) ?_
    exact Obs.nil
  replace hr_b0 := rangeAt_grown hr_b0 hD.gr
  replace hr_b1 := rangeAt_grown hr_b1 hD.gr
  replace hr_b3 := rangeAt_grown hr_b3 hD.gr
  replace hr_b4 := rangeAt_grown hr_b4 hD.gr
  replace hr_b5 := rangeAt_grown hr_b5 hD.gr
  replace ht_b2 := there_grown ht_b2 hD.gr
  replace ht_b3 := there_grown ht_b3 hD.gr
  replace ht_b4 := there_grown ht_b4 hD.gr
  replace ht_b5 := there_grown ht_b5 hD.gr
  replace hW := grown_trans hW hD.gr
  clear hD
  simp only [finAct, putAll, valsFrom, Plan.value, Act.put, List.setIfInBounds_toArray, List.set_cons_zero, List.set_cons_succ]
  replace hGl := hGl0.grown hW
  have hs5 := World.rangeAt_setCells_same w5 (b2) 0 (bl (((a) % p) * ((b) % p) % p)) (by rw [bl_length]; exact ht_b2)
  replace hW := grown_setCells hf_b2 (bl (((a) % p) * ((b) % p) % p)) 0 hW
  generalize w5.setCells (b2) 0 (bl (((a) % p) * ((b) % p) % p)) = w5s at *
  repeat go_step
  refine bodyPost_ret (v := bv (((a) % p) * ((b) % p) % p)) (result_cells Tryd.results23 _ _ (b2) _ ?hp hs5 Tryd.underlying23 rfl (by rw [bl_length]; exact info32)) ?hd ?_
  case hp => rfl
  case hd => rfl
  exact ⟨rfl, hW⟩

set_option maxRecDepth 100000 in
set_option maxHeartbeats 4000000 in
theorem AddR_raw (a b : Nat) (ha : a < S256) (hb : b < S256) (w : World) (hGl0 : Gp w) : Calls Tryd.prog 25 #[bv (a), bv (b)] w fun e w' => e = .returned (bv ((a % p + b % p) % p)) ∧ Grown w w' := by
  have hW := Grown.refl w
  have hGl := hGl0
  go_enter Tryd.func25, Tryd.ntmps25
  repeat ((fail_if_success (with_reducible show Code.wp _ (Code.region _ _ _) _ _ _)); go_step)
  refine wp_plain [.box 23 (bl (a)), .box 23 (bl (b)), .new 23 32] (by kernel_rfl) (fun β => ?_) (fun β w1 hD => ?_)
  · refine Obs.cons (Ob.box rfl rfl (by kernel_rfl)) ?_
    refine Obs.cons (Ob.box rfl rfl (by kernel_rfl)) ?_
    refine Obs.cons (Ob.new _ rfl rfl zero32.1 (by simp [bl_length])) ?_
    exact Obs.nil
  obtain ⟨hf_b0, hr_b0⟩ := hD.bx 0 _ _ rfl
  replace hf_b0 := Nat.le_trans hW.2.2 hf_b0
  obtain ⟨hf_b1, hr_b1⟩ := hD.bx 1 _ _ rfl
  replace hf_b1 := Nat.le_trans hW.2.2 hf_b1
  obtain ⟨hf_b2, ht_b2⟩ := hD.nw 2 _ _ rfl
  replace hf_b2 := Nat.le_trans hW.2.2 hf_b2
  replace hW := grown_trans hW hD.gr
  clear hD
  simp only [finAct, putAll, valsFrom, Plan.value, Act.put, List.setIfInBounds_toArray, List.set_cons_zero, List.set_cons_succ]
  replace hGl := hGl0.grown hW
  generalize β 0 = b0 at *
  generalize β (0 + 1) = b1 at *
  generalize β (0 + 1 + 1) = b2 at *
  repeat ((fail_if_success (with_reducible show Code.wp _ (Code.region _ _ _) _ _ _)); go_step)
  refine wp_plain [.val (bv (a)), .val (sn ((a) % p)), .new 45 16, .put 2 2 (fun _ => il 16 (d16 ((a) % p)))] (by kernel_rfl) (fun β => ?_) (fun β w2 hD => ?_)
  · refine Obs.cons (Ob.load (b0) 0 (bl (a)) rfl rfl (by kernel_rfl) hr_b0 Tryd.underlying23 rfl (by rw [bl_length]; exact info32)) ?_
    refine Obs.cons (Ob.call 62 #[bv (a)] rfl (fun w => by kernel_rfl) (fun w hg => From_r (a) ha w (hGl.grown hg))) ?_
    refine Obs.cons (Ob.new _ rfl rfl zeroS (by simp [il_length])) ?_
    refine Obs.cons (Ob.put 45 rfl rfl rfl (by kernel_rfl) (by kernel_rfl) (by rw [il_length]; exact infoS) (il_one _ _)) ?_
    exact Obs.nil
  replace hr_b0 := rangeAt_grown hr_b0 hD.gr
  replace hr_b1 := rangeAt_grown hr_b1 hD.gr
  replace ht_b2 := there_grown ht_b2 hD.gr
  obtain ⟨hf_b3, ht_b3⟩ := hD.nw 2 _ _ rfl
  have hr_b3 : w2.rangeAt (β 2) 0 (il 16 (d16 ((a) % p))) := hD.rg 3 2 2 (fun _ => il 16 (d16 ((a) % p))) rfl
  replace hf_b3 := Nat.le_trans hW.2.2 hf_b3
  replace hW := grown_trans hW hD.gr
  clear hD
  simp only [finAct, putAll, valsFrom, Plan.value, Act.put, List.setIfInBounds_toArray, List.set_cons_zero, List.set_cons_succ]
  replace hGl := hGl0.grown hW
  generalize β (0 + 1 + 1) = b3 at *
  repeat ((fail_if_success (with_reducible show Code.wp _ (Code.region _ _ _) _ _ _)); go_step)
  refine wp_plain [.val (bv (b)), .val (sn ((b) % p)), .new 45 16, .put 2 2 (fun _ => il 16 (d16 ((b) % p)))] (by kernel_rfl) (fun β => ?_) (fun β w3 hD => ?_)
  · refine Obs.cons (Ob.load (b1) 0 (bl (b)) rfl rfl (by kernel_rfl) hr_b1 Tryd.underlying23 rfl (by rw [bl_length]; exact info32)) ?_
    refine Obs.cons (Ob.call 62 #[bv (b)] rfl (fun w => by kernel_rfl) (fun w hg => From_r (b) hb w (hGl.grown hg))) ?_
    refine Obs.cons (Ob.new _ rfl rfl zeroS (by simp [il_length])) ?_
    refine Obs.cons (Ob.put 45 rfl rfl rfl (by kernel_rfl) (by kernel_rfl) (by rw [il_length]; exact infoS) (il_one _ _)) ?_
    exact Obs.nil
  replace hr_b0 := rangeAt_grown hr_b0 hD.gr
  replace hr_b1 := rangeAt_grown hr_b1 hD.gr
  replace hr_b3 := rangeAt_grown hr_b3 hD.gr
  replace ht_b2 := there_grown ht_b2 hD.gr
  replace ht_b3 := there_grown ht_b3 hD.gr
  obtain ⟨hf_b4, ht_b4⟩ := hD.nw 2 _ _ rfl
  have hr_b4 : w3.rangeAt (β 2) 0 (il 16 (d16 ((b) % p))) := hD.rg 3 2 2 (fun _ => il 16 (d16 ((b) % p))) rfl
  replace hf_b4 := Nat.le_trans hW.2.2 hf_b4
  replace hW := grown_trans hW hD.gr
  clear hD
  simp only [finAct, putAll, valsFrom, Plan.value, Act.put, List.setIfInBounds_toArray, List.set_cons_zero, List.set_cons_succ]
  replace hGl := hGl0.grown hW
  generalize β (0 + 1 + 1) = b4 at *
  repeat ((fail_if_success (with_reducible show Code.wp _ (Code.region _ _ _) _ _ _)); go_step)
  refine wp_plain [.val (sn ((a) % p)), .val (sn ((b) % p)), .val (sn ((((a) % p) + ((b) % p)) % p)), .new 45 16, .put 3 3 (fun _ => il 16 (d16 ((((a) % p) + ((b) % p)) % p)))] (by kernel_rfl) (fun β => ?_) (fun β w4 hD => ?_)
  · refine Obs.cons (Ob.load (b3) 0 (il 16 (d16 ((a) % p))) rfl rfl (by kernel_rfl) hr_b3 Tryd.underlying45 rfl (by rw [il_length]; exact infoS)) ?_
    refine Obs.cons (Ob.load (b4) 0 (il 16 (d16 ((b) % p))) rfl rfl (by kernel_rfl) hr_b4 Tryd.underlying45 rfl (by rw [il_length]; exact infoS)) ?_
    refine Obs.cons (Ob.call 64 #[sn ((a) % p), sn ((b) % p)] rfl (fun w => by kernel_rfl) (fun w hg => Plus_r ((a) % p) ((b) % p) (mod_S _) (mod_S _) w (hGl.grown hg))) ?_
    refine Obs.cons (Ob.new _ rfl rfl zeroS (by simp [il_length])) ?_
    refine Obs.cons (Ob.put 45 rfl rfl rfl (by kernel_rfl) (by kernel_rfl) (by rw [il_length]; exact infoS) (il_one _ _)) ?_
    exact Obs.nil
  replace hr_b0 := rangeAt_grown hr_b0 hD.gr
  replace hr_b1 := rangeAt_grown hr_b1 hD.gr
  replace hr_b3 := rangeAt_grown hr_b3 hD.gr
  replace hr_b4 := rangeAt_grown hr_b4 hD.gr
  replace ht_b2 := there_grown ht_b2 hD.gr
  replace ht_b3 := there_grown ht_b3 hD.gr
  replace ht_b4 := there_grown ht_b4 hD.gr
  obtain ⟨hf_b5, ht_b5⟩ := hD.nw 3 _ _ rfl
  have hr_b5 : w4.rangeAt (β 3) 0 (il 16 (d16 ((((a) % p) + ((b) % p)) % p))) := hD.rg 4 3 3 (fun _ => il 16 (d16 ((((a) % p) + ((b) % p)) % p))) rfl
  replace hf_b5 := Nat.le_trans hW.2.2 hf_b5
  replace hW := grown_trans hW hD.gr
  clear hD
  simp only [finAct, putAll, valsFrom, Plan.value, Act.put, List.setIfInBounds_toArray, List.set_cons_zero, List.set_cons_succ]
  replace hGl := hGl0.grown hW
  generalize β (0 + 1 + 1 + 1) = b5 at *
  repeat ((fail_if_success (with_reducible show Code.wp _ (Code.region _ _ _) _ _ _)); go_step)
  refine wp_plain_fin [.val (sn ((((a) % p) + ((b) % p)) % p)), .val (bv ((((a) % p) + ((b) % p)) % p)), .fin] (b2) 0 (fun _ => bl ((((a) % p) + ((b) % p)) % p)) (by kernel_rfl) (fun β => ?_) (fun β w5 hD => ?_)
  · refine Obs.cons (Ob.load (b5) 0 (il 16 (d16 ((((a) % p) + ((b) % p)) % p))) rfl rfl (by kernel_rfl) hr_b5 Tryd.underlying45 rfl (by rw [il_length]; exact infoS)) ?_
    refine Obs.cons (Ob.call 38 #[sn ((((a) % p) + ((b) % p)) % p)] rfl (fun w => by kernel_rfl) (fun w hg => Bytes_r ((((a) % p) + ((b) % p)) % p) w)) ?_
    refine Obs.cons (Ob.fin rfl (by rw [bl_length]; exact ht_b2) rfl (by kernel_rfl) (by kernel_rfl) (by rw [bl_length]; exact info32) (bl_one _)) ?_
    exact Obs.nil
  replace hr_b0 := rangeAt_grown hr_b0 hD.gr
  replace hr_b1 := rangeAt_grown hr_b1 hD.gr
  replace hr_b3 := rangeAt_grown hr_b3 hD.gr
  replace hr_b4 := rangeAt_grown hr_b4 hD.gr
  replace hr_b5 := rangeAt_grown hr_b5 hD.gr
  replace ht_b2 := there_grown ht_b2 hD.gr
  replace ht_b3 := there_grown ht_b3 hD.gr
  replace ht_b4 := there_grown ht_b4 hD.gr
  replace ht_b5 := there_grown ht_b5 hD.gr
  replace hW := grown_trans hW hD.gr
  clear hD
  simp only [finAct, putAll, valsFrom, Plan.value, Act.put, List.setIfInBounds_toArray, List.set_cons_zero, List.set_cons_succ]
  replace hGl := hGl0.grown hW
  have hs5 := World.rangeAt_setCells_same w5 (b2) 0 (bl ((((a) % p) + ((b) % p)) % p)) (by rw [bl_length]; exact ht_b2)
  replace hW := grown_setCells hf_b2 (bl ((((a) % p) + ((b) % p)) % p)) 0 hW
  generalize w5.setCells (b2) 0 (bl ((((a) % p) + ((b) % p)) % p)) = w5s at *
  repeat go_step
  refine bodyPost_ret (v := bv ((((a) % p) + ((b) % p)) % p)) (result_cells Tryd.results25 _ _ (b2) _ ?hp hs5 Tryd.underlying23 rfl (by rw [bl_length]; exact info32)) ?hd ?_
  case hp => rfl
  case hd => rfl
  exact ⟨rfl, hW⟩

set_option maxRecDepth 100000 in
set_option maxHeartbeats 4000000 in
theorem SubR_raw (a b : Nat) (ha : a < S256) (hb : b < S256) (w : World) (hGl0 : Gp w) : Calls Tryd.prog 27 #[bv (a), bv (b)] w fun e w' => e = .returned (bv (sb (a % p % p) (b % p))) ∧ Grown w w' := by
  have hW := Grown.refl w
  have hGl := hGl0
  go_enter Tryd.func27, Tryd.ntmps27
  repeat ((fail_if_success (with_reducible show Code.wp _ (Code.region _ _ _) _ _ _)); go_step)
  refine wp_plain [.box 23 (bl (a)), .box 23 (bl (b)), .new 23 32] (by kernel_rfl) (fun β => ?_) (fun β w1 hD => ?_)
  · refine Obs.cons (Ob.box rfl rfl (by kernel_rfl)) ?_
    refine Obs.cons (Ob.box rfl rfl (by kernel_rfl)) ?_
    refine Obs.cons (Ob.new _ rfl rfl zero32.1 (by simp [bl_length])) ?_
    exact Obs.nil
  obtain ⟨hf_b0, hr_b0⟩ := hD.bx 0 _ _ rfl
  replace hf_b0 := Nat.le_trans hW.2.2 hf_b0
  obtain ⟨hf_b1, hr_b1⟩ := hD.bx 1 _ _ rfl
  replace hf_b1 := Nat.le_trans hW.2.2 hf_b1
  obtain ⟨hf_b2, ht_b2⟩ := hD.nw 2 _ _ rfl
  replace hf_b2 := Nat.le_trans hW.2.2 hf_b2
  replace hW := grown_trans hW hD.gr
  clear hD
  simp only [finAct, putAll, valsFrom, Plan.value, Act.put, List.setIfInBounds_toArray, List.set_cons_zero, List.set_cons_succ]
  replace hGl := hGl0.grown hW
  generalize β 0 = b0 at *
  generalize β (0 + 1) = b1 at *
  generalize β (0 + 1 + 1) = b2 at *
  repeat ((fail_if_success (with_reducible show Code.wp _ (Code.region _ _ _) _ _ _)); go_step)
  refine wp_plain [.val (bv (a)), .val (sn ((a) % p)), .new 45 16, .put 2 2 (fun _ => il 16 (d16 ((a) % p)))] (by kernel_rfl) (fun β => ?_) (fun β w2 hD => ?_)
  · refine Obs.cons (Ob.load (b0) 0 (bl (a)) rfl rfl (by kernel_rfl) hr_b0 Tryd.underlying23 rfl (by rw [bl_length]; exact info32)) ?_
    refine Obs.cons (Ob.call 62 #[bv (a)] rfl (fun w => by kernel_rfl) (fun w hg => From_r (a) ha w (hGl.grown hg))) ?_
    refine Obs.cons (Ob.new _ rfl rfl zeroS (by simp [il_length])) ?_
    refine Obs.cons (Ob.put 45 rfl rfl rfl (by kernel_rfl) (by kernel_rfl) (by rw [il_length]; exact infoS) (il_one _ _)) ?_
    exact Obs.nil
  replace hr_b0 := rangeAt_grown hr_b0 hD.gr
  replace hr_b1 := rangeAt_grown hr_b1 hD.gr
  replace ht_b2 := there_grown ht_b2 hD.gr
  obtain ⟨hf_b3, ht_b3⟩ := hD.nw 2 _ _ rfl
  have hr_b3 : w2.rangeAt (β 2) 0 (il 16 (d16 ((a) % p))) := hD.rg 3 2 2 (fun _ => il 16 (d16 ((a) % p))) rfl
  replace hf_b3 := Nat.le_trans hW.2.2 hf_b3
  replace hW := grown_trans hW hD.gr
  clear hD
  simp only [finAct, putAll, valsFrom, Plan.value, Act.put, List.setIfInBounds_toArray, List.set_cons_zero, List.set_cons_succ]
  replace hGl := hGl0.grown hW
  generalize β (0 + 1 + 1) = b3 at *
  repeat ((fail_if_success (with_reducible show Code.wp _ (Code.region _ _ _) _ _ _)); go_step)
  refine wp_plain [.val (bv (b)), .val (sn ((b) % p)), .new 45 16, .put 2 2 (fun _ => il 16 (d16 ((b) % p)))] (by kernel_rfl) (fun β => ?_) (fun β w3 hD => ?_)
  · refine Obs.cons (Ob.load (b1) 0 (bl (b)) rfl rfl (by kernel_rfl) hr_b1 Tryd.underlying23 rfl (by rw [bl_length]; exact info32)) ?_
    refine Obs.cons (Ob.call 62 #[bv (b)] rfl (fun w => by kernel_rfl) (fun w hg => From_r (b) hb w (hGl.grown hg))) ?_
    refine Obs.cons (Ob.new _ rfl rfl zeroS (by simp [il_length])) ?_
    refine Obs.cons (Ob.put 45 rfl rfl rfl (by kernel_rfl) (by kernel_rfl) (by rw [il_length]; exact infoS) (il_one _ _)) ?_
    exact Obs.nil
  replace hr_b0 := rangeAt_grown hr_b0 hD.gr
  replace hr_b1 := rangeAt_grown hr_b1 hD.gr
  replace hr_b3 := rangeAt_grown hr_b3 hD.gr
  replace ht_b2 := there_grown ht_b2 hD.gr
  replace ht_b3 := there_grown ht_b3 hD.gr
  obtain ⟨hf_b4, ht_b4⟩ := hD.nw 2 _ _ rfl
  have hr_b4 : w3.rangeAt (β 2) 0 (il 16 (d16 ((b) % p))) := hD.rg 3 2 2 (fun _ => il 16 (d16 ((b) % p))) rfl
  replace hf_b4 := Nat.le_trans hW.2.2 hf_b4
  replace hW := grown_trans hW hD.gr
  clear hD
  simp only [finAct, putAll, valsFrom, Plan.value, Act.put, List.setIfInBounds_toArray, List.set_cons_zero, List.set_cons_succ]
  replace hGl := hGl0.grown hW
  generalize β (0 + 1 + 1) = b4 at *
  repeat ((fail_if_success (with_reducible show Code.wp _ (Code.region _ _ _) _ _ _)); go_step)
  refine wp_plain [.val (sn ((a) % p)), .val (sn ((b) % p)), .val (sn (sb (((a) % p) % p) ((b) % p))), .new 45 16, .put 3 3 (fun _ => il 16 (d16 (sb (((a) % p) % p) ((b) % p))))] (by kernel_rfl) (fun β => ?_) (fun β w4 hD => ?_)
  · refine Obs.cons (Ob.load (b3) 0 (il 16 (d16 ((a) % p))) rfl rfl (by kernel_rfl) hr_b3 Tryd.underlying45 rfl (by rw [il_length]; exact infoS)) ?_
    refine Obs.cons (Ob.load (b4) 0 (il 16 (d16 ((b) % p))) rfl rfl (by kernel_rfl) hr_b4 Tryd.underlying45 rfl (by rw [il_length]; exact infoS)) ?_
    refine Obs.cons (Ob.call 66 #[sn ((a) % p), sn ((b) % p)] rfl (fun w => by kernel_rfl) (fun w hg => Minus_r ((a) % p) ((b) % p) (mod_S _) (mod_S _) w (hGl.grown hg))) ?_
    refine Obs.cons (Ob.new _ rfl rfl zeroS (by simp [il_length])) ?_
    refine Obs.cons (Ob.put 45 rfl rfl rfl (by kernel_rfl) (by kernel_rfl) (by rw [il_length]; exact infoS) (il_one _ _)) ?_
    exact Obs.nil
  replace hr_b0 := rangeAt_grown hr_b0 hD.gr
  replace hr_b1 := rangeAt_grown hr_b1 hD.gr
  replace hr_b3 := rangeAt_grown hr_b3 hD.gr
  replace hr_b4 := rangeAt_grown hr_b4 hD.gr
  replace ht_b2 := there_grown ht_b2 hD.gr
  replace ht_b3 := there_grown ht_b3 hD.gr
  replace ht_b4 := there_grown ht_b4 hD.gr
  obtain ⟨hf_b5, ht_b5⟩ := hD.nw 3 _ _ rfl
  have hr_b5 : w4.rangeAt (β 3) 0 (il 16 (d16 (sb (((a) % p) % p) ((b) % p)))) := hD.rg 4 3 3 (fun _ => il 16 (d16 (sb (((a) % p) % p) ((b) % p)))) rfl
  replace hf_b5 := Nat.le_trans hW.2.2 hf_b5
  replace hW := grown_trans hW hD.gr
  clear hD
  simp only [finAct, putAll, valsFrom, Plan.value, Act.put, List.setIfInBounds_toArray, List.set_cons_zero, List.set_cons_succ]
  replace hGl := hGl0.grown hW
  generalize β (0 + 1 + 1 + 1) = b5 at *
  repeat ((fail_if_success (with_reducible show Code.wp _ (Code.region _ _ _) _ _ _)); go_step)
  refine wp_plain_fin [.val (sn (sb (((a) % p) % p) ((b) % p))), .val (bv (sb (((a) % p) % p) ((b) % p))), .fin] (b2) 0 (fun _ => bl (sb (((a) % p) % p) ((b) % p))) (by kernel_rfl) (fun β => ?_) (fun β w5 hD => ?_)
  · refine Obs.cons (Ob.load (b5) 0 (il 16 (d16 (sb (((a) % p) % p) ((b) % p)))) rfl rfl (by kernel_rfl) hr_b5 Tryd.underlying45 rfl (by rw [il_length]; exact infoS)) ?_
    refine Obs.cons (Ob.call 38 #[sn (sb (((a) % p) % p) ((b) % p))] rfl (fun w => by kernel_rfl) (fun w hg => Bytes_r (sb (((a) % p) % p) ((b) % p)) w)) ?_
    refine Obs.cons (Ob.fin rfl (by rw [bl_length]; exact ht_b2) rfl (by kernel_rfl) (by kernel_rfl) (by rw [bl_length]; exact info32) (bl_one _)) ?_
    exact Obs.nil
  replace hr_b0 := rangeAt_grown hr_b0 hD.gr
  replace hr_b1 := rangeAt_grown hr_b1 hD.gr
  replace hr_b3 := rangeAt_grown hr_b3 hD.gr
  replace hr_b4 := rangeAt_grown hr_b4 hD.gr
  replace hr_b5 := rangeAt_grown hr_b5 hD.gr
  replace ht_b2 := there_grown ht_b2 hD.gr
  replace ht_b3 := there_grown ht_b3 hD.gr
  replace ht_b4 := there_grown ht_b4 hD.gr
  replace ht_b5 := there_grown ht_b5 hD.gr
  replace hW := grown_trans hW hD.gr
  clear hD
  simp only [finAct, putAll, valsFrom, Plan.value, Act.put, List.setIfInBounds_toArray, List.set_cons_zero, List.set_cons_succ]
  replace hGl := hGl0.grown hW
  have hs5 := World.rangeAt_setCells_same w5 (b2) 0 (bl (sb (((a) % p) % p) ((b) % p))) (by rw [bl_length]; exact ht_b2)
  replace hW := grown_setCells hf_b2 (bl (sb (((a) % p) % p) ((b) % p))) 0 hW
  generalize w5.setCells (b2) 0 (bl (sb (((a) % p) % p) ((b) % p))) = w5s at *
  repeat go_step
  refine bodyPost_ret (v := bv (sb (((a) % p) % p) ((b) % p))) (result_cells Tryd.results27 _ _ (b2) _ ?hp hs5 Tryd.underlying23 rfl (by rw [bl_length]; exact info32)) ?hd ?_
  case hp => rfl
  case hd => rfl
  exact ⟨rfl, hW⟩

theorem MulR (a b : Nat) (ha : a < S256) (hb : b < S256) (w : World) (hGl0 : Gp w) : Calls Tryd.prog 23 #[bv a, bv b] w fun e w' => e = .returned (bv (fmul a b)) ∧ Grown w w' := by
  have := MulR_raw a b ha hb w hGl0
  rw [← Nat.mul_mod] at this
  exact this
theorem AddR (a b : Nat) (ha : a < S256) (hb : b < S256) (w : World) (hGl0 : Gp w) : Calls Tryd.prog 25 #[bv a, bv b] w fun e w' => e = .returned (bv (fadd a b)) ∧ Grown w w' := by
  have := AddR_raw a b ha hb w hGl0
  rw [← Nat.add_mod] at this
  exact this
theorem SubR (a b : Nat) (ha : a < S256) (hb : b < S256) (w : World) (hGl0 : Gp w) : Calls Tryd.prog 27 #[bv a, bv b] w fun e w' => e = .returned (bv (sb a b)) ∧ Grown w w' := by
  have := SubR_raw a b ha hb w hGl0
  rw [Nat.mod_mod, sb_mod, sb_mod'] at this
  exact this
set_option maxRecDepth 100000 in
set_option maxHeartbeats 4000000 in
theorem SquareR (a : Nat) (ha : a < S256) (w : World) (hGl0 : Gp w) : Calls Tryd.prog 24 #[bv (a)] w fun e w' => e = .returned (bv (fmul a a)) ∧ Grown w w' := by
  have hW := Grown.refl w
  have hGl := hGl0
  go_enter Tryd.func24, Tryd.ntmps24
  repeat ((fail_if_success (with_reducible show Code.wp _ (Code.region _ _ _) _ _ _)); go_step)
  refine wp_plain [.box 23 (bl (a)), .new 23 32] (by kernel_rfl) (fun β => ?_) (fun β w1 hD => ?_)
  · refine Obs.cons (Ob.box rfl rfl (by kernel_rfl)) ?_
    refine Obs.cons (Ob.new _ rfl rfl zero32.1 (by simp [bl_length])) ?_
    exact Obs.nil
  obtain ⟨hf_b0, hr_b0⟩ := hD.bx 0 _ _ rfl
  replace hf_b0 := Nat.le_trans hW.2.2 hf_b0
  obtain ⟨hf_b1, ht_b1⟩ := hD.nw 1 _ _ rfl
  replace hf_b1 := Nat.le_trans hW.2.2 hf_b1
  replace hW := grown_trans hW hD.gr
  clear hD
  simp only [finAct, putAll, valsFrom, Plan.value, Act.put, List.setIfInBounds_toArray, List.set_cons_zero, List.set_cons_succ]
  replace hGl := hGl0.grown hW
  generalize β 0 = b0 at *
  generalize β (0 + 1) = b1 at *
  repeat ((fail_if_success (with_reducible show Code.wp _ (Code.region _ _ _) _ _ _)); go_step)
  refine wp_plain_fin [.val (bv (a)), .val (bv (a)), .val (bv (fmul (a) (a))), .fin] (b1) 0 (fun _ => bl (fmul (a) (a))) (by kernel_rfl) (fun β => ?_) (fun β w2 hD => ?_)
  · refine Obs.cons (Ob.load (b0) 0 (bl (a)) rfl rfl (by kernel_rfl) hr_b0 Tryd.underlying23 rfl (by rw [bl_length]; exact info32)) ?_
    refine Obs.cons (Ob.load (b0) 0 (bl (a)) rfl rfl (by kernel_rfl) hr_b0 Tryd.underlying23 rfl (by rw [bl_length]; exact info32)) ?_
    refine Obs.cons (Ob.call 23 #[bv (a), bv (a)] rfl (fun w => by kernel_rfl) (fun w hg => MulR (a) (a) ha ha w (hGl.grown hg))) ?_
    refine Obs.cons (Ob.fin rfl (by rw [bl_length]; exact ht_b1) rfl (by kernel_rfl) (by kernel_rfl) (by rw [bl_length]; exact info32) (bl_one _)) ?_
    exact Obs.nil
  replace hr_b0 := rangeAt_grown hr_b0 hD.gr
  replace ht_b1 := there_grown ht_b1 hD.gr
  replace hW := grown_trans hW hD.gr
  clear hD
  simp only [finAct, putAll, valsFrom, Plan.value, Act.put, List.setIfInBounds_toArray, List.set_cons_zero, List.set_cons_succ]
  replace hGl := hGl0.grown hW
  have hs2 := World.rangeAt_setCells_same w2 (b1) 0 (bl (fmul (a) (a))) (by rw [bl_length]; exact ht_b1)
  replace hW := grown_setCells hf_b1 (bl (fmul (a) (a))) 0 hW
  generalize w2.setCells (b1) 0 (bl (fmul (a) (a))) = w2s at *
  repeat go_step
  refine bodyPost_ret (v := bv (fmul (a) (a))) (result_cells Tryd.results24 _ _ (b1) _ ?hp hs2 Tryd.underlying23 rfl (by rw [bl_length]; exact info32)) ?hd ?_
  case hp => rfl
  case hd => rfl
  exact ⟨rfl, hW⟩

end Go.Proofs.YtkegcilcapnpdaaDoor
