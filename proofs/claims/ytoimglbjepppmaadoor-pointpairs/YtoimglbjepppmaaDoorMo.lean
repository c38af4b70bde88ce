import Derived.Test.YtoimglbjepppmaaDoorMn
namespace Go.Proofs.YtoimglbjepppmaaDoor
open Go.RowKit Go.Shelf FieldNum

set_option maxRecDepth 100000 in
set_option maxHeartbeats 4000000 in
theorem times_raw (a b : Nat) (w : World) :
    Calls Tryd.prog 68 #[rn a, rn b] w fun e w' => (∃ n, e = .returned (rn n) ∧ n < H ∧ (n : Int) % (p : Nat) = (ds (d15 a) 17 * ds (d15 b) 17) % (p : Nat)) ∧ Grown w w' := by
  go_enter Tryd.func68, Tryd.ntmps68
  repeat ((fail_if_success (with_reducible show Code.wp _ (Code.region _ _ _) _ _ _)); go_step)
  refine wp_plain [.box 77 (rl (d15 a)), .box 77 (rl (d15 b)), .new 77 17] (by kernel_rfl) (fun β => ?_) (fun β w1 hD => ?_)
  · refine Obs.cons (Ob.box rfl rfl (by kernel_rfl)) ?_
    refine Obs.cons (Ob.box rfl rfl (by kernel_rfl)) ?_
    refine Obs.cons (Ob.new _ rfl rfl zeroR (by simp [rl_length])) ?_
    exact Obs.nil
  have hra := (hD.bx 0 _ _ rfl).2
  have hrb := (hD.bx 1 _ _ rfl).2
  obtain ⟨hf2, ht2⟩ := hD.nw 2 _ _ rfl
  have hW := hD.gr
  clear hD
  simp only [finAct, putAll, valsFrom, Plan.value, Act.put, List.setIfInBounds_toArray, List.set_cons_zero, List.set_cons_succ]
  generalize β 0 = b0 at *
  generalize β (0 + 1) = b1 at *
  generalize β (0 + 1 + 1) = b2 at *
  repeat ((fail_if_success (with_reducible show Code.wp _ (Code.region _ _ _) _ _ _)); go_step)
  refine wp_plain [.box 77 (rl fun _ => 0)] (by kernel_rfl) (fun β => ?_) (fun β w2 hD => ?_)
  · refine Obs.cons (Ob.newz (rl fun _ => 0) rfl rfl zeroR) ?_
    exact Obs.nil
  obtain ⟨hf3, hr3⟩ := hD.bx 0 _ _ rfl
  have hP0 : MX w b0 b1 (β 0) b2 (d15 a) (d15 b) (fun _ => 0) w2 := ⟨⟨fun j hj => cell_r hr3 hj, fun j => (hD.gr.2.1 _).trans (frozen_past hf3), there_grown ht2 hD.gr, by
      obtain ⟨v, hv⟩ := Option.isSome_iff_exists.1 (ht2 0 (by decide)).1
      have : b2 < w1.heap.size := block_lt_of_cell hv
      omega, Nat.le_trans hW.2.2 hf3, hf2, grown_trans hW hD.gr⟩, rangeAt_grown hra hD.gr, rangeAt_grown hrb hD.gr, by
      have : b0 < w1.heap.size := block_lt_of_cell (cell_r hra (j := 0) (by decide))
      omega, by
      have : b1 < w1.heap.size := block_lt_of_cell (cell_r hrb (j := 0) (by decide))
      omega⟩
  clear hD hra hrb hf2 ht2 hW hf3 hr3
  simp only [finAct, putAll, valsFrom, Plan.value, Act.put, List.setIfInBounds_toArray, List.set_cons_zero, List.set_cons_succ]
  generalize β 0 = b3 at *
  go_wp2
  go_loopw [6] (fun v6 wr => ∃ (i : Nat) (R : Nat → Int), v6 = .int .i64 (i : Int) ∧ i ≤ 17 ∧ MX w b0 b1 b3 b2 (d15 a) (d15 b) R wr ∧ PB (d15 a) (d15 b) R i 0) (fun v6 _ => 17 - (intOf v6).toNat)
  case atStart => exact ⟨0, _, rfl, by decide, hP0, PB.start _ _⟩
  case round =>
    obtain ⟨i, R0, rfl, hi, hX0, hP00⟩ := hrel
    clear hP0
    by_cases hlt : i < 17
    · have k0 : (i : Int) < 17 := by omega
      have d1 := cell_r hX0.ra hlt
      have H0 := Hid.of (And.intro hX0 hP00)
      have hi17 := Hid.of hlt
      have hxb := d15_in a 17 i hlt
      obtain ⟨x, hx0⟩ : ∃ x, x = d15 a i := ⟨_, rfl⟩
      have hx := Hid.of hx0
      rw [← hx0] at d1 hxb
      obtain ⟨Y, hY0⟩ : ∃ Y, Y = 19 * x := ⟨_, rfl⟩
      have hY := Hid.of hY0
      have e19 : wrap64 (19 * x) = Y := by rw [hY0]; unfold wrap64; omega
      have e17 : wrap64 (17 - (i : Int)) = ((17 - i : Nat) : Int) := by unfold wrap64; omega
      clear hX0 hP00 hx0 hY0 hi hxb
      go_wp2
      go_loopw [9] (fun v wr' => ∃ (j : Nat) (R : Nat → Int), v = .int .i64 (j : Int) ∧ j ≤ 17 - i ∧ MX w b0 b1 b3 b2 (d15 a) (d15 b) R wr' ∧ PB (d15 a) (d15 b) R i j) (fun v _ => 17 - (intOf v).toNat)
      case atStart => exact ⟨0, R0, rfl, Nat.zero_le _, H0.out.1, H0.out.2⟩
      case round =>
        obtain ⟨j, R, rfl, hj, hX, hP⟩ := hrel
        by_cases hlt : j < 17 - i
        · have k1 : (j : Int) < ((17 - i : Nat) : Int) := by omega
          have HX := Hid.of (And.intro (hX.grown (gdrew wr)) hP)
          have hj17 : j < 17 := by omega
          have hidx : i + j < 17 := by omega
          have hwm := mul15 (d15_in a 17 i hi17.out) (d15_in b 17 j hj17)
          have hRb := hP.bd (i + j) hidx
          have hN := Hid.of (hP.step1 (by omega) (d15_in a 17) (d15_in b 17))
          have hjj := Hid.of hj
          have hll := Hid.of hlt
          rw [← hx.out] at hwm
          clear hX hP
          have hwa : IntKind.i64.wrap (R (i + j) + x * d15 b j) = R (i + j) + x * d15 b j := by
            rw [IntKind.wrap_i64]
            have : (17 * (i : Int) + j) * 20401094656 ≤ 6000000000000 := by omega
            omega
          replace hwm : IntKind.i64.wrap (x * d15 b j) = x * d15 b j := by
            rw [IntKind.wrap_i64]
            omega
          clear hRb
          go_wp2
          refine wp_loose_fin [.imm (.int .i64 (i : Int)), .imm (.int .i64 (j : Int)), .imm (.int .i64 ((i + j : Nat) : Int)), .imm (.int .i64 (i : Int)), .imm (.int .i64 (j : Int)), .imm (.int .i64 ((i + j : Nat) : Int)), .imm (.pointer (some ⟨b3, i + j, none⟩)), .val (.int .i64 (R (i + j))), .imm (.int .i64 (x)), .imm (.int .i64 (j : Int)), .imm (.pointer (some ⟨b1, j, none⟩)), .val (.int .i64 (d15 b j)), .imm (.int .i64 (x * d15 b j)), .imm (.int .i64 (R (i + j) + x * d15 b j)), .imm (.pointer (some ⟨b3, i + j, none⟩)), .fin] b3 (i + j) (fun _ => [.int .i64 (R (i + j) + x * d15 b j)]) (by kernel_rfl) (by kernel_rfl) (fun β => ?_) (fun β w1 hD => ?_)
          · have hxa := HX.out.1.sx.lo (i + j) hidx
            have hxb := cell_r HX.out.1.rb hj17
            refine Obs.cons (Ob.imm rfl (fun w => by kernel_rfl)) ?_
            refine Obs.cons (Ob.imm rfl (fun w => by kernel_rfl)) ?_
            refine Obs.cons (Ob.imm rfl (fun w => exec_addI (i : Int) (j : Int) _ rfl (by kernel_rfl) (by kernel_rfl) (by rw [IntKind.wrap_i64]; omega))) ?_
            refine Obs.cons (Ob.imm rfl (fun w => by kernel_rfl)) ?_
            refine Obs.cons (Ob.imm rfl (fun w => by kernel_rfl)) ?_
            refine Obs.cons (Ob.imm rfl (fun w => exec_addI (i : Int) (j : Int) _ rfl (by kernel_rfl) (by kernel_rfl) (by rw [IntKind.wrap_i64]; omega))) ?_
            refine Obs.cons (Ob.imm rfl (fun w => exec_idxR (i + j) hidx rfl (by kernel_rfl) (by kernel_rfl))) ?_
            refine Obs.cons (Ob.load1 b3 (i + j) rfl rfl (by kernel_rfl) (block_lt_of_cell hxa) hxa (fun w h => run_loadI w h)) ?_
            refine Obs.cons (Ob.imm rfl (fun w => by kernel_rfl)) ?_
            refine Obs.cons (Ob.imm rfl (fun w => by kernel_rfl)) ?_
            refine Obs.cons (Ob.imm rfl (fun w => exec_idxR j hj17 rfl (by kernel_rfl) (by kernel_rfl))) ?_
            refine Obs.cons (Ob.load1 b1 j rfl rfl (by kernel_rfl) (block_lt_of_cell hxb) hxb (fun w h => run_loadI w h)) ?_
            refine Obs.cons (Ob.imm rfl (fun w => exec_mulI' _ _ _ rfl (by kernel_rfl) (by kernel_rfl) hwm)) ?_
            refine Obs.cons (Ob.imm rfl (fun w => exec_addI _ _ _ rfl (by kernel_rfl) (by kernel_rfl) hwa)) ?_
            refine Obs.cons (Ob.imm rfl (fun w => exec_idxR (i + j) hidx rfl (by kernel_rfl) (by kernel_rfl))) ?_
            refine Obs.cons (Ob.fin1 (.int .i64 (R (i + j) + x * d15 b j)) rfl rfl (HX.out.1.sx.cellthere hidx) rfl (by kernel_rfl) (by kernel_rfl) (fun w v0 h hf => run_storeI w v0 h hf)) ?_
            exact Obs.nil
          have hS := Hid.of (MX.set (R' := upd R (i + j) (d15 a i * d15 b j)) (HX.out.1.grown hD.gr) (i + j) hidx (R (i + j) + x * d15 b j) (by rw [upd_self, hx.out]) (upd_other _ _ _))
          clear hD HX hwm hwa
          simp only [finAct, putAll, valsFrom, Plan.value, Act.put, List.setIfInBounds_toArray, List.set_cons_zero, List.set_cons_succ]
          go_wp2
          go_roundw
          case rel => exact ⟨j + 1, _, by simp, by have := hll.out; have := hjj.out; omega, hS.out, hN.out⟩
          case measure => have := hll.out; have := hjj.out; simp [intOf]; omega
        · obtain rfl : j = 17 - i := by omega
          have H1 := Hid.of (And.intro hX hP)
          have k1 : ¬ ((17 - i : Nat) : Int) < ((17 - i : Nat) : Int) := by omega
          obtain ⟨R1, eR⟩ : ∃ R1, R1 = R := ⟨_, rfl⟩
          subst eR
          clear hX hP hj
          go_wp2
          go_loopw [10] (fun v wr' => ∃ (j : Nat) (R : Nat → Int), v = .int .i64 (j : Int) ∧ (17 - i ≤ j ∧ j ≤ 17) ∧ MX w b0 b1 b3 b2 (d15 a) (d15 b) R wr' ∧ PB (d15 a) (d15 b) R i j) (fun v _ => 17 - (intOf v).toNat)
          case atStart => exact ⟨17 - i, R1, congrArg (Value.int .i64) (by have := hi17.out; omega), ⟨Nat.le_refl _, by omega⟩, H1.out.1, H1.out.2⟩
          case round =>
            obtain ⟨j, R, rfl, hj, hX, hP⟩ := hrel
            by_cases hlt : j < 17
            · have k1 : (j : Int) < 17 := by omega
              have HX := Hid.of (And.intro (hX.grown (gdrew wr)) hP)
              have hj17 : j < 17 := by omega
              have hidx : i + j - 17 < 17 := by omega
              have hwm := mul15 (d15_in a 17 i hi17.out) (d15_in b 17 j hj17)
              have hRb := hP.bd (i + j - 17) hidx
              have hN := Hid.of (hP.step2 hi17.out hj17 (by omega) (d15_in a 17) (d15_in b 17))
              have hjj := Hid.of hj
              have hll := Hid.of hlt
              rw [← hx.out] at hwm
              have hYm : Y * d15 b j = 19 * (x * d15 b j) := by rw [hY.out]; grind
              clear hX hP
              have hwa : IntKind.i64.wrap (R (i + j - 17) + Y * d15 b j) = R (i + j - 17) + Y * d15 b j := by
                rw [IntKind.wrap_i64]
                rw [hYm]; have : (17 * (i : Int) + j) * 20401094656 ≤ 6000000000000 := by omega
                omega
              replace hwm : IntKind.i64.wrap (Y * d15 b j) = Y * d15 b j := by
                rw [IntKind.wrap_i64]
                rw [hYm]; omega
              clear hRb
              go_wp2
              refine wp_loose_fin [.imm (.int .i64 (i : Int)), .imm (.int .i64 (j : Int)), .imm (.int .i64 ((i + j : Nat) : Int)), .imm (.int .i64 ((i + j - 17 : Nat) : Int)), .imm (.int .i64 (i : Int)), .imm (.int .i64 (j : Int)), .imm (.int .i64 ((i + j : Nat) : Int)), .imm (.int .i64 ((i + j - 17 : Nat) : Int)), .imm (.pointer (some ⟨b3, i + j - 17, none⟩)), .val (.int .i64 (R (i + j - 17))), .imm (.int .i64 (Y)), .imm (.int .i64 (j : Int)), .imm (.pointer (some ⟨b1, j, none⟩)), .val (.int .i64 (d15 b j)), .imm (.int .i64 (Y * d15 b j)), .imm (.int .i64 (R (i + j - 17) + Y * d15 b j)), .imm (.pointer (some ⟨b3, i + j - 17, none⟩)), .fin] b3 (i + j - 17) (fun _ => [.int .i64 (R (i + j - 17) + Y * d15 b j)]) (by kernel_rfl) (by kernel_rfl) (fun β => ?_) (fun β w1 hD => ?_)
              · have hxa := HX.out.1.sx.lo (i + j - 17) hidx
                have hxb := cell_r HX.out.1.rb hj17
                refine Obs.cons (Ob.imm rfl (fun w => by kernel_rfl)) ?_
                refine Obs.cons (Ob.imm rfl (fun w => by kernel_rfl)) ?_
                refine Obs.cons (Ob.imm rfl (fun w => exec_addI (i : Int) (j : Int) _ rfl (by kernel_rfl) (by kernel_rfl) (by rw [IntKind.wrap_i64]; omega))) ?_
                refine Obs.cons (Ob.imm rfl (fun w => exec_subI ((i + j : Nat) : Int) 17 _ rfl (by kernel_rfl) (by kernel_rfl) (by rw [IntKind.wrap_i64]; omega))) ?_
                refine Obs.cons (Ob.imm rfl (fun w => by kernel_rfl)) ?_
                refine Obs.cons (Ob.imm rfl (fun w => by kernel_rfl)) ?_
                refine Obs.cons (Ob.imm rfl (fun w => exec_addI (i : Int) (j : Int) _ rfl (by kernel_rfl) (by kernel_rfl) (by rw [IntKind.wrap_i64]; omega))) ?_
                refine Obs.cons (Ob.imm rfl (fun w => exec_subI ((i + j : Nat) : Int) 17 _ rfl (by kernel_rfl) (by kernel_rfl) (by rw [IntKind.wrap_i64]; omega))) ?_
                refine Obs.cons (Ob.imm rfl (fun w => exec_idxR (i + j - 17) hidx rfl (by kernel_rfl) (by kernel_rfl))) ?_
                refine Obs.cons (Ob.load1 b3 (i + j - 17) rfl rfl (by kernel_rfl) (block_lt_of_cell hxa) hxa (fun w h => run_loadI w h)) ?_
                refine Obs.cons (Ob.imm rfl (fun w => by kernel_rfl)) ?_
                refine Obs.cons (Ob.imm rfl (fun w => by kernel_rfl)) ?_
                refine Obs.cons (Ob.imm rfl (fun w => exec_idxR j hj17 rfl (by kernel_rfl) (by kernel_rfl))) ?_
                refine Obs.cons (Ob.load1 b1 j rfl rfl (by kernel_rfl) (block_lt_of_cell hxb) hxb (fun w h => run_loadI w h)) ?_
                refine Obs.cons (Ob.imm rfl (fun w => exec_mulI' _ _ _ rfl (by kernel_rfl) (by kernel_rfl) hwm)) ?_
                refine Obs.cons (Ob.imm rfl (fun w => exec_addI _ _ _ rfl (by kernel_rfl) (by kernel_rfl) hwa)) ?_
                refine Obs.cons (Ob.imm rfl (fun w => exec_idxR (i + j - 17) hidx rfl (by kernel_rfl) (by kernel_rfl))) ?_
                refine Obs.cons (Ob.fin1 (.int .i64 (R (i + j - 17) + Y * d15 b j)) rfl rfl (HX.out.1.sx.cellthere hidx) rfl (by kernel_rfl) (by kernel_rfl) (fun w v0 h hf => run_storeI w v0 h hf)) ?_
                exact Obs.nil
              have hS := Hid.of (MX.set (R' := upd R (i + j - 17) (19 * d15 a i * d15 b j)) (HX.out.1.grown hD.gr) (i + j - 17) hidx (R (i + j - 17) + Y * d15 b j) (by rw [upd_self, hY.out, hx.out]) (upd_other _ _ _))
              clear hD HX hwm hwa hYm
              simp only [finAct, putAll, valsFrom, Plan.value, Act.put, List.setIfInBounds_toArray, List.set_cons_zero, List.set_cons_succ]
              go_wp2
              go_roundw
              case rel => exact ⟨j + 1, _, by simp, by have := hll.out; have := hjj.out; omega, hS.out, hN.out⟩
              case measure => have := hll.out; have := hjj.out; simp [intOf]; omega
            · obtain rfl : j = 17 := by omega
              have H2 := Hid.of (And.intro hX hP)
              clear hX hP hj hlt
              go_wp2
              go_roundw
              case rel => exact ⟨i + 1, R, by simp, hi17.out, H2.out.1, H2.out.2.next⟩
              case measure => have := hi17.out; simp [intOf]; omega
    · obtain rfl : i = 17 := by omega
      have hr := hX0.sx.range
      have ht := hX0.sx.tr
      have hf := hX0.sx.f2
      have hW := hX0.sx.gw
      have hbd := Hid.of (show ∀ j, j < 17 → -4503599627370496 ≤ R0 j ∧ R0 j ≤ 4503599627370496 from fun j hj => by have := hP00.bd j hj; omega)
      have heq := Hid.of hP00.eq
      clear hX0 hP00
      go_wp2_with (with_reducible show wpList _ _ _ ({ dst := _, op := Op.load 77 _, type := _, pos := _, after := _, guard := _ } :: _) _ _; refine Shut.out ?_)
      show wpList _ _ _ _ _ _
      refine wpList_load_mid rfl 77 _ rfl b3 0 rfl (rl R0) _ hr Tryd.underlying77 rfl (by rw [rl_length]; exact infoR) ?_
      simp only [Act.put, List.setIfInBounds_toArray, List.set_cons_zero, List.set_cons_succ]
      go_wp2_with fail
      refine Calls.mono (settled_any R0 hbd.out _) ?_
      rintro e w2 ⟨⟨n, rfl, hn, hq⟩, hg⟩
      dsimp only
      go_step
      have ht2 := there_grown ht hg
      have hW2 := grown_trans hW hg
      refine wpList_store_mid rfl 77 _ _ rfl b2 0 (rl (d15 n)).toArray rfl rfl (by rw [List.size_toArray, rl_length]; exact ht2) (by rw [List.size_toArray, rl_length]; exact infoR) (all_oneCell_toArray (rl_one _)) ?_
      simp only [Act.put]
      apply wpList_nil
      repeat go_step
      refine bodyPost_ret (v := rn n) (result_cells Tryd.results68 _ _ b2 (rl (d15 n)) ?hp (World.rangeAt_setCells_same _ _ _ _ (by rw [rl_length]; exact ht2)) Tryd.underlying77 rfl (by rw [rl_length]; exact infoR)) ?hd ?_
      case hp => rfl
      case hd => rfl
      refine ⟨⟨n, rfl, hn, ?_⟩, grown_setCells hf _ _ hW2⟩
      rw [hq, heq.out]
      show (ds (d15 a) 17 * ds (d15 b) 17 + d15 a 17 * 32768 ^ 17 * 0) % _ = _
      rw [Int.mul_zero, Int.add_zero]
theorem times_r (a b : Nat) (ha : a < H) (hb : b < H) (w : World) :
    Calls Tryd.prog 68 #[rn a, rn b] w fun e w' => (∃ n, e = .returned (rn n) ∧ n < H ∧ n % p = a * b % p) ∧ Grown w w' :=
  (times_raw a b w).mono fun _ _ ⟨⟨n, h1, h2, h3⟩, hg⟩ => ⟨⟨n, h1, h2, nat_mod h3 (by rw [ds_d15 ha, ds_d15 hb]; simp)⟩, hg⟩
end Go.Proofs.YtoimglbjepppmaaDoor

namespace FieldNum
/-- the number 2^240 - 1: all digits but the first -/
theorem big_dig : ∀ j : Fin 17, 1 ≤ j.val → 1766847064778384329583297500742918515827483896875618958121606201292619775 / 32768 ^ (j.val - 1) % 32768 = 32767 := by decide +kernel
theorem least_big {n : Nat} (hn : n < 57896044618658097711785492504343953926634992332820282019728792003956564819968) (h : p ≤ n) : 32749 ≤ n % 32768 ∧ n / 32768 = 1766847064778384329583297500742918515827483896875618958121606201292619775 := by
  have e : p = 57896044618658097711785492504343953926634992332820282019728792003956564819949 := rfl
  rw [e] at h
  omega
theorem least_small {n : Nat} (h1 : 32749 ≤ n % 32768) (h : n / 32768 = 1766847064778384329583297500742918515827483896875618958121606201292619775) : p ≤ n ∧ n % 32768 - 32749 = n - p := by
  have e : p = 57896044618658097711785492504343953926634992332820282019728792003956564819949 := rfl
  rw [e]
  omega
end FieldNum
namespace Go.Proofs.YtoimglbjepppmaaDoor
open Go.RowKit Go.Shelf FieldNum

theorem d15_small {n : Nat} (hn : n < 32768) (j : Nat) : (if j = 0 then (n : Int) else 0) = d15 n j := by
  unfold d15
  by_cases h : j = 0
  · subst h; rw [if_pos rfl, Nat.pow_zero, Nat.div_one, Nat.mod_eq_of_lt hn]
  · rw [if_neg h, Nat.div_eq_of_lt (Nat.lt_of_lt_of_le hn (by
      have : 32768 ^ 1 ≤ 32768 ^ j := Nat.pow_le_pow_right (by decide) (by omega)
      simpa using this))]
    rfl

set_option maxRecDepth 100000 in
set_option maxHeartbeats 2000000 in
theorem small_v (n : Nat) (hn : n < 32768) (m : Int) (hm : m = (n : Int)) (w : World) : Calls Tryd.prog 60 #[.int .i64 m] w fun e w' => e = .returned (rn n) ∧ Grown w w' := by
  subst hm
  go_enter Tryd.func60, Tryd.ntmps60
  repeat ((fail_if_success (with_reducible show Code.wp _ (Code.region _ _ _) _ _ _)); go_step)
  refine wp_plain [.new 77 17] (by kernel_rfl) (fun β => ?_) (fun β w1 hD => ?_)
  · refine Obs.cons (Ob.new _ rfl rfl zeroR (by simp [rl_length])) ?_
    exact Obs.nil
  obtain ⟨hf2, ht2⟩ := hD.nw 0 _ _ rfl
  have hW := hD.gr
  clear hD
  simp only [finAct, putAll, valsFrom, Plan.value, Act.put, List.setIfInBounds_toArray, List.set_cons_zero, List.set_cons_succ]
  generalize β 0 = b2 at *
  repeat ((fail_if_success (with_reducible show Code.wp _ (Code.region _ _ _) _ _ _)); go_step)
  refine wp_plain [.box 77 (rl fun _ => 0)] (by kernel_rfl) (fun β => ?_) (fun β w2 hD => ?_)
  · refine Obs.cons (Ob.newz (rl fun _ => 0) rfl rfl zeroR) ?_
    exact Obs.nil
  obtain ⟨hf3, hr3⟩ := hD.bx 0 _ _ rfl
  have hP0 : SX w (β 0) b2 (fun _ => 0) w2 := ⟨fun j hj => cell_r hr3 hj, fun j => (hD.gr.2.1 _).trans (frozen_past hf3), there_grown ht2 hD.gr, by
      obtain ⟨v, hv⟩ := Option.isSome_iff_exists.1 (ht2 0 (by decide)).1
      have : b2 < w1.heap.size := block_lt_of_cell hv
      omega, Nat.le_trans hW.2.2 hf3, hf2, grown_trans hW hD.gr⟩
  clear hD hf2 ht2 hW hf3 hr3
  simp only [finAct, putAll, valsFrom, Plan.value, Act.put, List.setIfInBounds_toArray, List.set_cons_zero, List.set_cons_succ]
  generalize β 0 = b3 at *
  have d1 := hP0.lo 0 (by decide)
  have d2 := hP0.fr 0
  have hS := hP0.set (h := d15 n) 0 (by decide) (n : Int) (d15_small hn 0).symm (fun j hj => by rw [← d15_small hn j, if_neg hj])
  have hr := hS.range
  have ht := hS.tr
  have hf := hS.f2
  have hW := hS.gw
  clear hP0 hS
  go_wp2_with (with_reducible show wpList _ _ _ ({ dst := _, op := Op.load 77 _, type := _, pos := _, after := _, guard := _ } :: _) _ _; refine Shut.out ?_)
  show wpList _ _ _ _ _ _
  refine wpList_load_mid rfl 77 _ rfl b3 0 rfl (rl (d15 n)) _ hr Tryd.underlying77 rfl (by rw [rl_length]; exact infoR) ?_
  simp only [Act.put, List.setIfInBounds_toArray, List.set_cons_zero, List.set_cons_succ]
  refine wpList_store_mid rfl 77 _ _ rfl b2 0 (rl (d15 n)).toArray rfl rfl (by rw [List.size_toArray, rl_length]; exact ht) (by rw [List.size_toArray, rl_length]; exact infoR) (all_oneCell_toArray (rl_one _)) ?_
  simp only [Act.put]
  apply wpList_nil
  repeat go_step
  refine bodyPost_ret (v := rn n) (result_cells Tryd.results60 _ _ b2 (rl (d15 n)) ?hp (World.rangeAt_setCells_same _ _ _ _ (by rw [rl_length]; exact ht)) Tryd.underlying77 rfl (by rw [rl_length]; exact infoR)) ?hd ?_
  case hp => rfl
  case hd => rfl
  exact ⟨rfl, grown_setCells hf _ _ hW⟩

/-- is it p or more, as far as the first k digits tell? -/
def tp (n k : Nat) : Bool := decide (32749 ≤ n % 32768 ∧ ∀ j, j < k → 1 ≤ j → n / 32768 ^ j % 32768 = 32767)
theorem tp_succ (n k : Nat) (hk : 1 ≤ k) : tp n (k + 1) = (tp n k && decide (n / 32768 ^ k % 32768 = 32767)) := by
  unfold tp
  rw [← Bool.decide_and]
  apply decide_eq_decide.2
  constructor
  · rintro ⟨a, b⟩
    exact ⟨⟨a, fun j h2 h1 => b j (by omega) h1⟩, b k (by omega) hk⟩
  · rintro ⟨⟨a, b⟩, c⟩
    refine ⟨a, fun j h2 h1 => ?_⟩
    by_cases e : j = k
    · rw [e]; exact c
    · exact b j (by omega) h1
theorem tp_all {n : Nat} (hn : n < H) : tp n 17 = decide (p ≤ n) := by
  unfold tp
  apply decide_eq_decide.2
  constructor
  · rintro ⟨a, b⟩
    refine (least_small a ?_).1
    have hlt : n / 32768 < 32768 ^ 16 := by
      have e : (32768 : Nat) ^ 16 = 1766847064778384329583297500742918515827483896875618958121606201292619776 := by decide
      rw [e]
      unfold H at hn
      omega
    have key : ∀ k, k ≤ 16 → n / 32768 % 32768 ^ k = 32768 ^ k - 1 := by
      intro k
      induction k with
      | zero => intro _; simp [Nat.mod_one]
      | succ k ih =>
        intro hk
        have h1 := ih (by omega)
        have h2 := b (k + 1) (by omega) (by omega)
        rw [Nat.pow_succ, Nat.mod_mul, h1, Nat.div_div_eq_div_mul, show 32768 * 32768 ^ k = 32768 ^ (k + 1) by rw [Nat.pow_succ, Nat.mul_comm], h2]
        have h3 : 0 < 32768 ^ k := Nat.pow_pos (by decide)
        generalize 32768 ^ k = P at *
        omega
    have h16 := key 16 (Nat.le_refl _)
    rw [Nat.mod_eq_of_lt hlt] at h16
    rw [h16]
  · intro h
    obtain ⟨a, b⟩ := least_big hn h
    refine ⟨a, fun j h2 h1 => ?_⟩
    have := big_dig ⟨j, h2⟩ h1
    rw [← b, Nat.div_div_eq_div_mul, show 32768 * 32768 ^ (j - 1) = 32768 ^ j by rw [← Nat.pow_succ', Nat.succ_eq_add_one, Nat.sub_add_cancel h1]] at this
    exact this
end Go.Proofs.YtoimglbjepppmaaDoor

namespace Go.Proofs.YtoimglbjepppmaaDoor
open Go.RowKit Go.Shelf FieldNum

theorem d15_0 (n : Nat) : d15 n 0 = ((n % 32768 : Nat) : Int) := by unfold d15; rw [Nat.pow_zero, Nat.div_one]
theorem geq_cast (m : Nat) : decide ((32749 : Int) ≤ (m : Int)) = decide (32749 ≤ m) := decide_eq_decide.2 (by omega)
theorem tp_one (n : Nat) : tp n 1 = decide (32749 ≤ n % 32768) := by
  unfold tp
  apply decide_eq_decide.2
  exact ⟨fun h => h.1, fun h => ⟨h, fun j h1 h2 => by omega⟩⟩
theorem tp_d (n k : Nat) (hk : 1 ≤ k) (ht : tp n k = true) : tp n (k + 1) = (d15 n k == 32767) := by
  rw [tp_succ n k hk, ht, Bool.true_and]
  unfold d15
  by_cases h : n / 32768 ^ k % 32768 = 32767
  · rw [h]; rfl
  · rw [decide_eq_false h]
    symm
    apply beq_eq_false_iff_ne.2
    omega
theorem tp_f (n k : Nat) (hk : 1 ≤ k) (ht : tp n k = false) : tp n (k + 1) = false := by
  rw [tp_succ n k hk, ht, Bool.false_and]

set_option maxRecDepth 100000 in
set_option maxHeartbeats 2000000 in
theorem least_r (n : Nat) (hn : n < H) (w : World) : Calls Tryd.prog 73 #[rn n] w fun e w' => e = .returned (rn (n % p)) ∧ Grown w w' := by
  have hall := Hid.of (tp_all hn)
  go_enter Tryd.func73, Tryd.ntmps73
  repeat ((fail_if_success (with_reducible show Code.wp _ (Code.region _ _ _) _ _ _)); go_step)
  refine wp_plain [.box 77 (rl (d15 n)), .new 77 17] (by kernel_rfl) (fun β => ?_) (fun β w1 hD => ?_)
  · refine Obs.cons (Ob.box rfl rfl (by kernel_rfl)) ?_
    refine Obs.cons (Ob.new _ rfl rfl zeroR (by simp [rl_length])) ?_
    exact Obs.nil
  have HX := Hid.of (show SX w (β 0) (β 1) (d15 n) w1 from ⟨fun j hj => cell_r (hD.bx 0 _ _ rfl).2 hj, fun j => (hD.gr.2.1 _).trans (frozen_past (hD.bx 0 _ _ rfl).1), (hD.nw 1 _ _ rfl).2, hD.ap 0 1 _ _ rfl rfl rfl rfl (by decide), (hD.bx 0 _ _ rfl).1, (hD.nw 1 _ _ rfl).1, hD.gr⟩)
  clear hD
  simp only [finAct, putAll, valsFrom, Plan.value, Act.put, List.setIfInBounds_toArray, List.set_cons_zero, List.set_cons_succ]
  generalize β 0 = b0 at *
  generalize β (0 + 1) = b1 at *
  have d0 := HX.out.lo 0 (by decide)
  rw [d15_0] at d0
  obtain ⟨m, hm0⟩ : ∃ m, m = n % 32768 := ⟨_, rfl⟩
  rw [← hm0] at d0
  have hm := Hid.of hm0
  have hm2 := Hid.of (show m < 32768 by rw [hm0]; exact Nat.mod_lt _ (by decide))
  clear hm0
  go_wp2
  go_loopw [3, 4] (fun v3 v4 wr => ∃ k : Nat, v4 = .int .i64 (k : Int) ∧ v3 = .bool (tp n k) ∧ 1 ≤ k ∧ k ≤ 17 ∧ wr = w1) (fun _ v4 _ => 17 - (intOf v4).toNat)
  case atStart => exact ⟨1, rfl, by rw [tp_one, ← hm.out, ← geq_cast], by decide, by decide, rfl⟩
  case round =>
    obtain ⟨k, rfl, rfl, hk1, hk, rfl⟩ := hrel
    by_cases hlt : k < 17
    · have k1 : (k : Int) < 17 := by omega
      have d1 := HX.out.lo k hlt
      cases htp : tp n k
      · have h1 := Hid.of (tp_f n k hk1 htp)
        have h2 := Hid.of (And.intro hk1 hlt)
        clear htp hk1 hk hlt d1
        go_wp2
        go_roundw
        case rel => exact ⟨k + 1, by simp, by rw [h1.out], by omega, h2.out.2, trivial⟩
        case measure => have := h2.out; simp [intOf]; omega
      · have h1 := Hid.of (tp_d n k hk1 htp)
        have h2 := Hid.of (And.intro hk1 hlt)
        clear htp hk1 hk hlt
        generalize d15 n k = x at *
        go_wp2
        go_roundw
        case rel => exact ⟨k + 1, by simp, by rw [h1.out], by omega, h2.out.2, trivial⟩
        case measure => have := h2.out; simp [intOf]; omega
    · obtain rfl : k = 17 := by omega
      cases hp : decide (p ≤ n)
      · rw [hall.out.trans hp]
        have hlt2 : n % p = n := Nat.mod_eq_of_lt (Nat.lt_of_not_le (of_decide_eq_false hp))
        have hr := HX.out.range
        have ht := HX.out.tr
        have hf := HX.out.f2
        have hW := HX.out.gw
        clear hp HX hlt hk hk1
        go_wp2_with (with_reducible show wpList _ _ _ ({ dst := _, op := Op.load 77 _, type := _, pos := _, after := _, guard := _ } :: _) _ _; refine Shut.out ?_)
        show wpList _ _ _ _ _ _
        refine wpList_load_mid rfl 77 _ rfl b0 0 rfl (rl (d15 n)) _ hr Tryd.underlying77 rfl (by rw [rl_length]; exact infoR) ?_
        simp only [Act.put, List.setIfInBounds_toArray, List.set_cons_zero, List.set_cons_succ]
        refine wpList_store_mid rfl 77 _ _ rfl b1 0 (rl (d15 n)).toArray rfl rfl (by rw [List.size_toArray, rl_length]; exact ht) (by rw [List.size_toArray, rl_length]; exact infoR) (all_oneCell_toArray (rl_one _)) ?_
        simp only [Act.put]
        apply wpList_nil
        repeat go_step
        refine bodyPost_ret (v := rn n) (result_cells Tryd.results73 _ _ b1 (rl (d15 n)) ?hp (World.rangeAt_setCells_same _ _ _ _ (by rw [rl_length]; exact ht)) Tryd.underlying77 rfl (by rw [rl_length]; exact infoR)) ?hd ?_
        case hp => rfl
        case hd => rfl
        exact ⟨by rw [hlt2], grown_setCells hf _ _ hW⟩
      · rw [hall.out.trans hp]
        have hb := least_big hn (of_decide_eq_true hp)
        have hs := least_small hb.1 hb.2
        have hmod : n % p = n - p := by
          rw [Nat.mod_eq_sub_mod hs.1, Nat.mod_eq_of_lt]
          have e : p = 57896044618658097711785492504343953926634992332820282019728792003956564819949 := rfl
          have e2 := hn
          unfold H at e2
          omega
        have hmm : m - 32749 = n % p := by rw [hm.out, hmod, hs.2]
        have hm3 : 32749 ≤ m := by rw [hm.out]; exact hb.1
        have hm4 := hm2.out
        have e1 : wrap64 ((m : Int) - 32749) = ((m - 32749 : Nat) : Int) := by unfold wrap64; omega
        have ht := HX.out.tr
        have hf := HX.out.f2
        have hW := HX.out.gw
        have hsv := small_v (m - 32749) (by omega)
        have HM := Hid.of hmm
        clear hp HX hlt hk hk1 hb hs hmod hmm hm hm3 hm4 hm2 hall
        generalize m - 32749 = q at *
        go_wp2_with fail
        refine Calls.mono (hsv (q : Int) rfl _) ?_
        rintro e w2 ⟨rfl, hg⟩
        dsimp only
        go_step
        have ht2 := there_grown ht hg
        have hW2 := grown_trans hW hg
        refine wpList_store_mid rfl 77 _ _ rfl b1 0 (rl (d15 q)).toArray rfl rfl (by rw [List.size_toArray, rl_length]; exact ht2) (by rw [List.size_toArray, rl_length]; exact infoR) (all_oneCell_toArray (rl_one _)) ?_
        simp only [Act.put]
        apply wpList_nil
        repeat go_step
        refine bodyPost_ret (v := rn q) (result_cells Tryd.results73 _ _ b1 (rl (d15 q)) ?hp (World.rangeAt_setCells_same _ _ _ _ (by rw [rl_length]; exact ht2)) Tryd.underlying77 rfl (by rw [rl_length]; exact infoR)) ?hd ?_
        case hp => rfl
        case hd => rfl
        exact ⟨by rw [← HM.out], grown_setCells hf _ _ hW2⟩
end Go.Proofs.YtoimglbjepppmaaDoor

namespace Go.Proofs.YtoimglbjepppmaaDoor
open Go.RowKit Go.Shelf FieldNum

theorem cellsI : Tryd.prog.cellsOf 3 = 1 := by kernel_rfl
theorem d15_inj {m n : Nat} (hm : m < H) (hn : n < H) : (∀ i ∈ List.range 17, d15 m i = d15 n i) ↔ m = n := by
  constructor
  · intro h
    have h1 := digits_eq 32768 m n 17 (fun i hi => by have := h i (by simp [hi]); unfold d15 at this; omega)
    have e : (32768 : Nat) ^ 17 = H := by decide
    rw [e, Nat.mod_eq_of_lt hm, Nat.mod_eq_of_lt hn] at h1
    exact h1
  · rintro rfl i _; rfl
theorem equalR (d : Nat) (m n : Nat) (hm : m < H) (hn : n < H) (w : World) : (Op.equalIn (d + 2) 77 (rn m) (rn n)).run Tryd.prog w = .ok (decide (m = n)) w := by
  obtain ⟨i, hi⟩ : ∃ i, Tryd.prog.info? 3 = some i := Option.isSome_iff_exists.1 (by kernel_rfl)
  unfold rn rv
  rw [run_equalIn_array (w := w) (d + 1) _ _ Tryd.underlying77 hi, cellsI]
  rw [eqItems_ints d 3 .i64 .i64 Tryd.underlying3 (fun xs j v w hv => by rw [Nat.mul_one]; exact run_part_plain (w := w) (by kernel_rfl) hv) (d15 m) (d15 n) _ _ w (List.range 17)
    (fun j hj => by rw [List.getElem?_toArray]; exact rl_get _ j (by simpa using hj)) (fun j hj => by rw [List.getElem?_toArray]; exact rl_get _ j (by simpa using hj))]
  simp only [d15_inj hm hn]
theorem exec_eqlR {o : Oper} {ρ : Operand → Value} {x y : Operand} {t : TypeId} (ho : o.op = .binOp .eql 77 x y t) (m n : Nat) (hx : ρ x = rn m) (hy : ρ y = rn n) (hm : m < H) (hn : n < H) (r : Bool) (hr : decide (m = n) = r) (w : World) :
    (execOp ρ o).run Tryd.prog w = .ok (.value (.bool r)) w := by
  subst hr
  have he := equalR 9998 m n hm hn w
  unfold rn rv at *
  unfold execOp
  simp only [ho, hx, hy, Sem.run_bind, run_eqGuard_agg (P := Tryd.prog) (w := w) .eql 77 x y _ _ Tryd.eqGuardType77, run_eql_struct, he, Result.andThen_ok, Sem.run_pure]
theorem p_lt_H0 : p < H := by decide +kernel
theorem mod_H (n : Nat) : n % p < H := Nat.lt_trans (Nat.mod_lt _ p_pos) p_lt_H0

set_option maxRecDepth 100000 in
set_option maxHeartbeats 2000000 in
theorem equal_is (a b : Nat) (ha : a < H) (hb : b < H) (c : Bool) (h : decide (a % p = b % p) = c) (w : World) : Calls Tryd.prog 62 #[rn a, rn b] w fun e w' => e = .returned (.bool c) ∧ Grown w w' := by
  have hW := Grown.refl w
  go_enter Tryd.func62, Tryd.ntmps62
  repeat ((fail_if_success (with_reducible show Code.wp _ (Code.region _ _ _) _ _ _)); go_step)
  refine wp_plain [.box 77 (rl (d15 (a))), .box 77 (rl (d15 (b))), .imm (.bool false)] (by kernel_rfl) (fun β => ?_) (fun β w1 hD => ?_)
  · refine Obs.cons (Ob.box rfl rfl (by kernel_rfl)) ?_
    refine Obs.cons (Ob.box rfl rfl (by kernel_rfl)) ?_
    refine Obs.cons (Ob.imm rfl (fun w => by kernel_rfl)) ?_
    exact Obs.nil
  obtain ⟨hf_b0, hr_b0⟩ := hD.bx 0 _ _ rfl
  replace hf_b0 := Nat.le_trans hW.2.2 hf_b0
  obtain ⟨hf_b1, hr_b1⟩ := hD.bx 1 _ _ rfl
  replace hf_b1 := Nat.le_trans hW.2.2 hf_b1
  replace hW := grown_trans hW hD.gr
  clear hD
  simp only [finAct, putAll, valsFrom, Plan.value, Act.put, List.setIfInBounds_toArray, List.set_cons_zero, List.set_cons_succ]
  generalize β 0 = b0 at *
  generalize β (0 + 1) = b1 at *
  repeat ((fail_if_success (with_reducible show Code.wp _ (Code.region _ _ _) _ _ _)); go_step)
  replace hr_b0 := rangeAt_grown hr_b0 (gdrew w1)
  replace hr_b1 := rangeAt_grown hr_b1 (gdrew w1)
  replace hW := grown_trans hW (gdrew w1)
  refine wp_loose [.val (rn (a)), .val (rn ((a) % p)), .val (rn (b)), .val (rn ((b) % p)), .imm (.bool (c)), .imm (.bool (c))] (by kernel_rfl) (by kernel_rfl) (fun β => ?_) (fun β w2 hD => ?_)
  · refine Obs.cons (Ob.load (b0) 0 (rl (d15 (a))) rfl rfl (by kernel_rfl) hr_b0 Tryd.underlying77 rfl (by rw [rl_length]; exact infoR)) ?_
    refine Obs.cons (Ob.call 73 #[rn (a)] rfl (fun w => by kernel_rfl) (fun w hg => least_r (a) ha w)) ?_
    refine Obs.cons (Ob.load (b1) 0 (rl (d15 (b))) rfl rfl (by kernel_rfl) hr_b1 Tryd.underlying77 rfl (by rw [rl_length]; exact infoR)) ?_
    refine Obs.cons (Ob.call 73 #[rn (b)] rfl (fun w => by kernel_rfl) (fun w hg => least_r (b) hb w)) ?_
    refine Obs.cons (Ob.imm rfl (fun w => exec_eqlR rfl ((a) % p) ((b) % p) (by kernel_rfl) (by kernel_rfl) (mod_H _) (mod_H _) c (h) w)) ?_
    refine Obs.cons (Ob.imm rfl (fun w => by kernel_rfl)) ?_
    exact Obs.nil
  replace hr_b0 := rangeAt_grown hr_b0 hD.gr
  replace hr_b1 := rangeAt_grown hr_b1 hD.gr
  replace hW := grown_trans hW hD.gr
  clear hD
  simp only [finAct, putAll, valsFrom, Plan.value, Act.put, List.setIfInBounds_toArray, List.set_cons_zero, List.set_cons_succ]
  repeat go_step
  go_ret
  exact ⟨rfl, hW⟩
end Go.Proofs.YtoimglbjepppmaaDoor

namespace Go.Proofs.YtoimglbjepppmaaDoor
open Go.RowKit Go.Shelf FieldNum

section
variable {o : Oper} {ρ : Operand → Value} {x y : Operand} {t : TypeId} {w : World}
theorem exec_quoI (m n r : Nat) (h0 : n ≠ 0) (ho : o.op = .binOp .quo 3 x y t) (hx : ρ x = .int .i64 (m : Int)) (hy : ρ y = .int .i64 (n : Int)) (hm : m < 1000) (hr : m / n = r) : (execOp ρ o).run Tryd.prog w = .ok (.value (.int .i64 (r : Int))) w := by
  subst hr
  have e : Int.tdiv (m : Int) (n : Int) = ((m / n : Nat) : Int) := by rw [Int.tdiv_eq_ediv_of_nonneg (by omega)]; rfl
  have h2 : IntKind.i64.wrap ((m : Int) / (n : Int)) = (m : Int) / (n : Int) := by
    have h3 : m / n ≤ m := Nat.div_le_self _ _
    rw [← Int.natCast_ediv]
    generalize m / n = q at *
    rw [IntKind.wrap_i64]; omega
  unfold execOp
  simp only [ho, hx, hy]
  simp [go_sem, h0, e, h2]
theorem exec_remI (m n r : Nat) (h0 : n ≠ 0) (ho : o.op = .binOp .rem 3 x y t) (hx : ρ x = .int .i64 (m : Int)) (hy : ρ y = .int .i64 (n : Int)) (hr : m % n = r) : (execOp ρ o).run Tryd.prog w = .ok (.value (.int .i64 (r : Int))) w := by
  subst hr
  have e : Int.tmod (m : Int) (n : Int) = ((m % n : Nat) : Int) := by rw [Int.tmod_eq_emod_of_nonneg (by omega)]; rfl
  unfold execOp
  simp only [ho, hx, hy]
  simp [go_sem, h0, e]
theorem exec_c85 (m : Nat) (hm : m < 1000) (ho : o.op = .convert 3 85 x) (hx : ρ x = .int .i64 (m : Int)) : (execOp ρ o).run Tryd.prog w = .ok (.value (.int .u64 (m : Int))) w := by
  have h2 : IntKind.u64.wrap (m : Int) = (m : Int) := by rw [IntKind.wrap_u64]; omega
  unfold execOp
  simp only [ho, hx]
  simp [go_sem, h2]
theorem exec_c53 (m : Nat) (hm : m < 1000) (ho : o.op = .convert 5 3 x) (hx : ρ x = .int .u8 (m : Int)) : (execOp ρ o).run Tryd.prog w = .ok (.value (.int .i64 (m : Int))) w := by
  have h2 : IntKind.i64.wrap (m : Int) = (m : Int) := by rw [IntKind.wrap_i64]; omega
  unfold execOp
  simp only [ho, hx]
  simp [go_sem, h2]
theorem exec_c35 (m : Nat) (hm : m < 256) (ho : o.op = .convert 3 5 x) (hx : ρ x = .int .i64 (m : Int)) : (execOp ρ o).run Tryd.prog w = .ok (.value (.int .u8 (m : Int))) w := by
  have h2 : IntKind.u8.wrap (m : Int) = (m : Int) := by rw [IntKind.wrap_u8]; omega
  unfold execOp
  simp only [ho, hx]
  simp [go_sem, h2]
theorem exec_shr8 (c k r : Nat) (hk : k < 8) (ho : o.op = .binOp .shr 5 x y 85) (hx : ρ x = .int .u8 (c : Int)) (hy : ρ y = .int .u64 (k : Int)) (hr : c / 2 ^ k = r) : (execOp ρ o).run Tryd.prog w = .ok (.value (.int .u8 (r : Int))) w := by
  subst hr
  unfold execOp
  simp only [ho, hx, hy]
  rcases (by omega : k = 0 ∨ k = 1 ∨ k = 2 ∨ k = 3 ∨ k = 4 ∨ k = 5 ∨ k = 6 ∨ k = 7) with rfl | rfl | rfl | rfl | rfl | rfl | rfl | rfl <;> simp [go_sem]
theorem exec_shrI (c k r : Nat) (hk : k < 15) (ho : o.op = .binOp .shr 3 x y 85) (hx : ρ x = .int .i64 (c : Int)) (hy : ρ y = .int .u64 (k : Int)) (hr : c / 2 ^ k = r) : (execOp ρ o).run Tryd.prog w = .ok (.value (.int .i64 (r : Int))) w := by
  subst hr
  unfold execOp
  simp only [ho, hx, hy]
  rcases (by omega : k = 0 ∨ k = 1 ∨ k = 2 ∨ k = 3 ∨ k = 4 ∨ k = 5 ∨ k = 6 ∨ k = 7 ∨ k = 8 ∨ k = 9 ∨ k = 10 ∨ k = 11 ∨ k = 12 ∨ k = 13 ∨ k = 14) with rfl | rfl | rfl | rfl | rfl | rfl | rfl | rfl | rfl | rfl | rfl | rfl | rfl | rfl | rfl <;> simp [go_sem]
theorem exec_shlI (c k r : Nat) (hc : c < 2) (hk : k < 15) (ho : o.op = .binOp .shl 3 x y 85) (hx : ρ x = .int .i64 (c : Int)) (hy : ρ y = .int .u64 (k : Int)) (hr : c * 2 ^ k = r) : (execOp ρ o).run Tryd.prog w = .ok (.value (.int .i64 (r : Int))) w := by
  subst hr
  unfold execOp
  simp only [ho, hx, hy]
  rcases (by omega : c = 0 ∨ c = 1) with rfl | rfl <;> rcases (by omega : k = 0 ∨ k = 1 ∨ k = 2 ∨ k = 3 ∨ k = 4 ∨ k = 5 ∨ k = 6 ∨ k = 7 ∨ k = 8 ∨ k = 9 ∨ k = 10 ∨ k = 11 ∨ k = 12 ∨ k = 13 ∨ k = 14) with rfl | rfl | rfl | rfl | rfl | rfl | rfl | rfl | rfl | rfl | rfl | rfl | rfl | rfl | rfl <;> (simp [go_sem]; try decide)
theorem exec_shl8 (c k r : Nat) (hc : c < 2) (hk : k < 8) (ho : o.op = .binOp .shl 5 x y 85) (hx : ρ x = .int .u8 (c : Int)) (hy : ρ y = .int .u64 (k : Int)) (hr : c * 2 ^ k = r) : (execOp ρ o).run Tryd.prog w = .ok (.value (.int .u8 (r : Int))) w := by
  subst hr
  unfold execOp
  simp only [ho, hx, hy]
  rcases (by omega : c = 0 ∨ c = 1) with rfl | rfl <;> rcases (by omega : k = 0 ∨ k = 1 ∨ k = 2 ∨ k = 3 ∨ k = 4 ∨ k = 5 ∨ k = 6 ∨ k = 7) with rfl | rfl | rfl | rfl | rfl | rfl | rfl | rfl <;> (simp [go_sem]; try decide)
theorem exec_add8 (c d r : Nat) (hr : c + d = r) (h : r < 256) (ho : o.op = .binOp .add 5 x y t) (hx : ρ x = .int .u8 (c : Int)) (hy : ρ y = .int .u8 (d : Int)) : (execOp ρ o).run Tryd.prog w = .ok (.value (.int .u8 (r : Int))) w := by
  subst hr
  have h2 : IntKind.u8.wrap ((c : Int) + (d : Int)) = ((c + d : Nat) : Int) := by rw [IntKind.wrap_u8]; omega
  unfold execOp
  simp only [ho, hx, hy]
  simp [go_sem, h2]
theorem exec_and1 (c r : Nat) (hc : c < 32768) (ho : o.op = .binOp .and 3 x y t) (hx : ρ x = .int .i64 (c : Int)) (hy : ρ y = .int .i64 1) (hr : c % 2 = r) : (execOp ρ o).run Tryd.prog w = .ok (.value (.int .i64 (r : Int))) w := by
  subst hr
  have h2 : bits .and .i64 (c : Int) 1 = ((c % 2 : Nat) : Int) := by
    have h1 : (BitVec.ofInt 64 (c : Int)).toNat = c := by
      rw [BitVec.ofInt_natCast, BitVec.toNat_ofNat]; exact Nat.mod_eq_of_lt (by omega)
    show IntKind.i64.wrap ((BitVec.ofInt 64 (c : Int) &&& BitVec.ofInt 64 1).toNat : Int) = _
    rw [BitVec.toNat_and, h1, show (BitVec.ofInt 64 1).toNat = 1 from rfl, show c &&& 1 = c % 2 from Nat.and_two_pow_sub_one_eq_mod c 1, IntKind.wrap_i64]
    omega
  unfold execOp
  simp only [ho, hx, hy]
  simp [go_sem, h2]
end
end Go.Proofs.YtoimglbjepppmaaDoor

namespace FieldNum
theorem mod_pow_succ (b i : Nat) : b % 2 ^ (i + 1) = b % 2 ^ i + 2 ^ i * (b / 2 ^ i % 2) := by rw [Nat.pow_succ, Nat.mod_mul]
theorem dig_step (s b i j : Nat) (hs : 0 < s) : (b % 2 ^ (i + 1)) / (2 ^ s) ^ j % 2 ^ s = if j = i / s then (b % 2 ^ i) / (2 ^ s) ^ j % 2 ^ s + (b / 2 ^ i % 2) * 2 ^ (i % s) else (b % 2 ^ i) / (2 ^ s) ^ j % 2 ^ s := by
  rw [mod_pow_succ]
  have hc : b % 2 ^ i < 2 ^ i := Nat.mod_lt _ (Nat.pow_pos (by decide))
  have ht : b / 2 ^ i % 2 < 2 := Nat.mod_lt _ (by decide)
  have hik : s * (i / s) + i % s = i := Nat.div_add_mod i s
  have hr : i % s < s := Nat.mod_lt _ hs
  generalize b % 2 ^ i = c at *
  generalize b / 2 ^ i % 2 = t at *
  generalize i / s = k at *
  generalize i % s = r at *
  have e : 2 ^ i = (2 ^ s) ^ k * 2 ^ r := by rw [← hik, Nat.pow_add, Nat.pow_mul]
  have hP : ∀ n, 0 < (2 ^ s) ^ n := fun n => Nat.pow_pos (Nat.pow_pos (by decide))
  rcases Nat.lt_trichotomy j k with h | h | h
  · rw [if_neg (by omega)]
    obtain ⟨d, rfl⟩ : ∃ d, k = j + 1 + d := ⟨k - (j + 1), by omega⟩
    have e2 : 2 ^ i * t = (2 ^ s * ((2 ^ s) ^ d * 2 ^ r * t)) * (2 ^ s) ^ j := by
      rw [e, Nat.pow_add, Nat.pow_succ]; grind
    rw [e2, Nat.add_mul_div_right _ _ (hP j), Nat.add_mul_mod_self_left]
  · subst h
    rw [if_pos rfl]
    have h1 : c / (2 ^ s) ^ j < 2 ^ r := by
      rw [Nat.div_lt_iff_lt_mul (hP j), Nat.mul_comm, ← e]; exact hc
    have h2 : 2 ^ r * 2 ≤ 2 ^ s := by rw [← Nat.pow_succ]; exact Nat.pow_le_pow_right (by decide) (by omega)
    have e2 : 2 ^ i * t = (2 ^ r * t) * (2 ^ s) ^ j := by rw [e]; grind
    rw [e2, Nat.add_mul_div_right _ _ (hP j)]
    generalize c / (2 ^ s) ^ j = q at *
    generalize 2 ^ r = R at *
    generalize 2 ^ s = S at *
    have h3 : R * t ≤ R * 1 := Nat.mul_le_mul_left _ (by omega)
    rw [Nat.mod_eq_of_lt (by omega), Nat.mod_eq_of_lt (by omega), Nat.mul_comm t]
  · rw [if_neg (by omega)]
    have h1 : c + 2 ^ i * t < (2 ^ s) ^ j := by
      have h3 : 2 ^ i * t ≤ 2 ^ i * 1 := Nat.mul_le_mul_left _ (by omega)
      have h4 : 2 ^ i * 2 ≤ (2 ^ s) ^ j := by
        rw [← Nat.pow_succ, ← Nat.pow_mul]
        apply Nat.pow_le_pow_right (by decide)
        have : s * (k + 1) ≤ s * j := Nat.mul_le_mul_left _ (by omega)
        rw [Nat.mul_add] at this
        omega
      omega
    rw [Nat.div_eq_of_lt h1, Nat.div_eq_of_lt (by omega)]
theorem bit_eq (b i : Nat) : b / 256 ^ (i / 8) % 256 / 2 ^ (i % 8) % 2 = b / 2 ^ i % 2 := by
  have e1 : (256 : Nat) = 2 ^ 8 := by decide
  have hr : i % 8 < 8 := Nat.mod_lt _ (by decide)
  have h : b / 2 ^ i = b / 256 ^ (i / 8) / 2 ^ (i % 8) := by
    rw [Nat.div_div_eq_div_mul, e1, ← Nat.pow_mul, ← Nat.pow_add, Nat.div_add_mod]
  rw [h]
  generalize b / 256 ^ (i / 8) = x at *
  generalize i % 8 = r at *
  rcases (by omega : r = 0 ∨ r = 1 ∨ r = 2 ∨ r = 3 ∨ r = 4 ∨ r = 5 ∨ r = 6 ∨ r = 7) with rfl | rfl | rfl | rfl | rfl | rfl | rfl | rfl <;> simp only [Nat.reducePow] <;> omega
end FieldNum
namespace Go.Proofs.YtoimglbjepppmaaDoor
open Go.RowKit Go.Shelf FieldNum

theorem cell_b {w : World} {g b k : Nat} (h : w.rangeAt g 0 (bl b)) (hk : k < 32) : w.cell? ⟨g, k, none⟩ = some (.int .u8 ((b / 256 ^ k % 256 : Nat) : Int)) := by
  have := h k _ (bl_get b k hk)
  rwa [Nat.zero_add] at this

set_option maxRecDepth 100000 in
set_option maxHeartbeats 2000000 in
theorem Bit_num (b i : Nat) (hi : i < 256) (w : World) : Calls Tryd.prog 66 #[bv b, .int .i64 (i : Int)] w fun e w' => e = .returned (.int .i64 ((b / 2 ^ i % 2 : Nat) : Int)) ∧ Grown w w' := by
  have hW := Grown.refl w
  go_enter Tryd.func66, Tryd.ntmps66
  repeat ((fail_if_success (with_reducible show Code.wp _ (Code.region _ _ _) _ _ _)); go_step)
  refine wp_plain [.box 23 (bl b), .imm (.int .i64 0)] (by kernel_rfl) (fun β => ?_) (fun β w1 hD => ?_)
  · refine Obs.cons (Ob.box rfl rfl (by kernel_rfl)) ?_
    refine Obs.cons (Ob.imm rfl (fun w => by kernel_rfl)) ?_
    exact Obs.nil
  obtain ⟨hf0, hr0⟩ := hD.bx 0 _ _ rfl
  replace hW := grown_trans hW hD.gr
  clear hD
  simp only [finAct, putAll, valsFrom, Plan.value, Act.put, List.setIfInBounds_toArray, List.set_cons_zero, List.set_cons_succ]
  generalize β 0 = b0 at *
  repeat ((fail_if_success (with_reducible show Code.wp _ (Code.region _ _ _) _ _ _)); go_step)
  have hk : i / 8 < 32 := by omega
  have hr : i % 8 < 8 := Nat.mod_lt _ (by decide)
  have hc := cell_b hr0 hk
  have hlt : b / 256 ^ (i / 8) % 256 / 2 ^ (i % 8) < 1000 := Nat.lt_of_le_of_lt (Nat.div_le_self _ _) (Nat.lt_of_lt_of_le (Nat.mod_lt _ (by decide)) (by decide))
  refine wp_plain [.imm (.int .i64 (i : Int)), .imm (.int .i64 ((i / 8 : Nat) : Int)), .imm (.pointer (some ⟨b0, i / 8, none⟩)), .val (.int .u8 ((b / 256 ^ (i / 8) % 256 : Nat) : Int)), .imm (.int .i64 (i : Int)), .imm (.int .i64 ((i % 8 : Nat) : Int)), .imm (.int .u64 ((i % 8 : Nat) : Int)), .imm (.int .u8 ((b / 256 ^ (i / 8) % 256 / 2 ^ (i % 8) : Nat) : Int)), .imm (.int .i64 ((b / 256 ^ (i / 8) % 256 / 2 ^ (i % 8) : Nat) : Int)), .imm (.int .i64 ((b / 2 ^ i % 2 : Nat) : Int)), .imm (.int .i64 ((b / 2 ^ i % 2 : Nat) : Int))] (by kernel_rfl) (fun β => ?_) (fun β w2 hD => ?_)
  · refine Obs.cons (Ob.imm rfl (fun w => by kernel_rfl)) ?_
    refine Obs.cons (Ob.imm rfl (fun w => exec_quoI i 8 _ (by decide) rfl (by kernel_rfl) (by kernel_rfl) (by omega) rfl)) ?_
    refine Obs.cons (Ob.imm rfl (fun w => exec_idx (i / 8) hk rfl (by kernel_rfl) (by kernel_rfl))) ?_
    refine Obs.cons (Ob.load1 b0 (i / 8) rfl rfl (by kernel_rfl) (block_lt_of_cell hc) hc (fun w h => run_load8 w h)) ?_
    refine Obs.cons (Ob.imm rfl (fun w => by kernel_rfl)) ?_
    refine Obs.cons (Ob.imm rfl (fun w => exec_remI i 8 _ (by decide) rfl (by kernel_rfl) (by kernel_rfl) rfl)) ?_
    refine Obs.cons (Ob.imm rfl (fun w => exec_c85 (i % 8) (by omega) rfl (by kernel_rfl))) ?_
    refine Obs.cons (Ob.imm rfl (fun w => exec_shr8 (b / 256 ^ (i / 8) % 256) (i % 8) _ hr rfl (by kernel_rfl) (by kernel_rfl) rfl)) ?_
    refine Obs.cons (Ob.imm rfl (fun w => exec_c53 (b / 256 ^ (i / 8) % 256 / 2 ^ (i % 8)) hlt rfl (by kernel_rfl))) ?_
    refine Obs.cons (Ob.imm rfl (fun w => exec_and1 (b / 256 ^ (i / 8) % 256 / 2 ^ (i % 8)) _ (by omega) rfl (by kernel_rfl) (by kernel_rfl) (bit_eq b i))) ?_
    refine Obs.cons (Ob.imm rfl (fun w => by kernel_rfl)) ?_
    exact Obs.nil
  replace hW := grown_trans hW hD.gr
  clear hD hc hlt hr0
  simp only [finAct, putAll, valsFrom, Plan.value, Act.put, List.setIfInBounds_toArray, List.set_cons_zero, List.set_cons_succ]
  repeat go_step
  go_ret
  exact ⟨rfl, hW⟩
end Go.Proofs.YtoimglbjepppmaaDoor

