import Derived.Test.YtoimglbjepppmaaDoorMo
namespace Go.Proofs.YtoimglbjepppmaaDoor
open Go.RowKit Go.Shelf FieldNum

theorem H_pow : H = 2 ^ 255 := by decide
theorem d15_step (b i j : Nat) : d15 (b % 2 ^ (i + 1)) j = if j = i / 15 then d15 (b % 2 ^ i) j + ((b / 2 ^ i % 2 * 2 ^ (i % 15) : Nat) : Int) else d15 (b % 2 ^ i) j := by
  have := dig_step 15 b i j (by decide)
  rw [show (2 : Nat) ^ 15 = 32768 by decide] at this
  unfold d15
  rw [this]
  split
  · rw [Int.natCast_add]
  · rfl

/-- digits, and bytes that are read -/
structure RX (w0 : World) (g b r : Nat) (f : Nat → Int) (n : Nat) (wr : World) : Prop where
  sx : SX w0 g r f wr
  rb : wr.rangeAt b 0 (bl n)
  nb : b ≠ g
theorem RX.grown {w0 wr w' : World} {g b r n : Nat} {f : Nat → Int} (s : RX w0 g b r f n wr) (hg : Grown wr w') : RX w0 g b r f n w' :=
  ⟨⟨fun _ hj => cell_r (rangeAt_grown s.sx.range hg) hj, fun j => (hg.2.1 _).trans (s.sx.fr j), there_grown s.sx.tr hg, s.sx.ne, s.sx.fg, s.sx.f2, grown_trans s.sx.gw hg⟩, rangeAt_grown s.rb hg, s.nb⟩
theorem RX.set {w0 wr : World} {g b r n : Nat} {f f' : Nat → Int} (s : RX w0 g b r f n wr) (k : Nat) (hk : k < 17) (v : Int) (hv : f' k = v) (ho : ∀ j, j ≠ k → f' j = f j) : RX w0 g b r f' n (wr.setCell ⟨g, k, none⟩ (.int .i64 v)) :=
  ⟨s.sx.set k hk v hv ho, rangeAt_setCell s.rb s.nb, s.nb⟩

set_option maxRecDepth 100000 in
set_option maxHeartbeats 2000000 in
theorem read_r (b : Nat) (w : World) : Calls Tryd.prog 63 #[bv b] w fun e w' => e = .returned (rn (b % H)) ∧ Grown w w' := by
  go_enter Tryd.func63, Tryd.ntmps63
  repeat ((fail_if_success (with_reducible show Code.wp _ (Code.region _ _ _) _ _ _)); go_step)
  refine wp_plain [.box 23 (bl b), .new 77 17] (by kernel_rfl) (fun β => ?_) (fun β w1 hD => ?_)
  · refine Obs.cons (Ob.box rfl rfl (by kernel_rfl)) ?_
    refine Obs.cons (Ob.new _ rfl rfl zeroR (by simp [rl_length])) ?_
    exact Obs.nil
  have hrb := (hD.bx 0 _ _ rfl).2
  obtain ⟨hf2, ht2⟩ := hD.nw 1 _ _ rfl
  have hW := hD.gr
  clear hD
  simp only [finAct, putAll, valsFrom, Plan.value, Act.put, List.setIfInBounds_toArray, List.set_cons_zero, List.set_cons_succ]
  generalize β 0 = b0 at *
  generalize β (0 + 1) = b2 at *
  repeat ((fail_if_success (with_reducible show Code.wp _ (Code.region _ _ _) _ _ _)); go_step)
  refine wp_plain [.box 77 (rl fun _ => 0)] (by kernel_rfl) (fun β => ?_) (fun β w2 hD => ?_)
  · refine Obs.cons (Ob.newz (rl fun _ => 0) rfl rfl zeroR) ?_
    exact Obs.nil
  obtain ⟨hf3, hr3⟩ := hD.bx 0 _ _ rfl
  have hP0 : RX w (β 0) b0 b2 (fun _ => 0) b w2 := ⟨⟨fun j hj => cell_r hr3 hj, fun j => (hD.gr.2.1 _).trans (frozen_past hf3), there_grown ht2 hD.gr, by
      obtain ⟨v, hv⟩ := Option.isSome_iff_exists.1 (ht2 0 (by decide)).1
      have : b2 < w1.heap.size := block_lt_of_cell hv
      omega, Nat.le_trans hW.2.2 hf3, hf2, grown_trans hW hD.gr⟩, rangeAt_grown hrb hD.gr, ne_of_fresh hrb hf3⟩
  clear hD hrb hf2 ht2 hW hf3 hr3
  simp only [finAct, putAll, valsFrom, Plan.value, Act.put, List.setIfInBounds_toArray, List.set_cons_zero, List.set_cons_succ]
  generalize β 0 = b3 at *
  go_wp2
  go_loopw [4] (fun v4 wr => ∃ i : Nat, v4 = .int .i64 (i : Int) ∧ i ≤ 255 ∧ RX w b3 b0 b2 (d15 (b % 2 ^ i)) b wr) (fun v4 _ => 255 - (intOf v4).toNat)
  case atStart => exact ⟨0, rfl, by decide, ⟨hP0.sx.congr (fun j _ => by unfold d15; rw [Nat.pow_zero, Nat.mod_one, Nat.zero_div]; rfl), hP0.rb, hP0.nb⟩⟩
  case round =>
    obtain ⟨i, rfl, hi, hX⟩ := hrel
    clear hP0
    by_cases hlt : i < 255
    · have k1 : (i : Int) < 255 := by omega
      have HX := Hid.of (hX.grown (gdrew wr))
      have hii := Hid.of hlt
      clear hX hi hlt
      go_wp2
      have hi := hii.out
      have hk : i / 15 < 17 := by omega
      have hr : i % 15 < 15 := Nat.mod_lt _ (by decide)
      have ht : b / 2 ^ i % 2 < 2 := Nat.mod_lt _ (by decide)
      have hb2 : b / 2 ^ i % 2 * 2 ^ (i % 15) ≤ 16384 := Nat.le_trans (Nat.mul_le_mul (show _ ≤ 1 by omega) (Nat.pow_le_pow_right (by decide) (show i % 15 ≤ 14 by omega))) (by decide)
      have hS0 := HX.out
      obtain ⟨t, et⟩ : ∃ t, t = b / 2 ^ i % 2 := ⟨_, rfl⟩
      obtain ⟨f, ef⟩ : ∃ f, f = d15 (b % 2 ^ i) := ⟨_, rfl⟩
      have hfd := d15_in (b % 2 ^ i) 17 (i / 15) hk
      have hst := d15_step b i
      rw [← ef] at hS0 hfd hst
      rw [← et] at ht hb2 hst
      have hBit : ∀ w, Calls Tryd.prog 66 #[bv b, .int .i64 (i : Int)] w fun e w' => e = .returned (.int .i64 (t : Int)) ∧ Grown w w' := by
        intro w
        rw [et]; exact Bit_num b i (by omega) w
      refine wp_loose_fin [.imm (.int .i64 (i : Int)), .imm (.int .i64 ((i / 15 : Nat) : Int)), .imm (.int .i64 (i : Int)), .imm (.int .i64 ((i / 15 : Nat) : Int)), .imm (.pointer (some ⟨b3, i / 15, none⟩)), .val (.int .i64 (f (i / 15))), .val (bv b), .imm (.int .i64 (i : Int)), .val (.int .i64 (t : Int)), .imm (.int .i64 (i : Int)), .imm (.int .i64 ((i % 15 : Nat) : Int)), .imm (.int .u64 ((i % 15 : Nat) : Int)), .imm (.int .i64 ((t * 2 ^ (i % 15) : Nat) : Int)), .imm (.int .i64 (f (i / 15) + ((t * 2 ^ (i % 15) : Nat) : Int))), .imm (.pointer (some ⟨b3, i / 15, none⟩)), .fin] b3 (i / 15) (fun _ => [.int .i64 (f (i / 15) + ((t * 2 ^ (i % 15) : Nat) : Int))]) (by kernel_rfl) (by kernel_rfl) (fun β => ?_) (fun β w1 hD => ?_)
      · have hxa := hS0.sx.lo (i / 15) hk
        refine Obs.cons (Ob.imm rfl (fun w => by kernel_rfl)) ?_
        refine Obs.cons (Ob.imm rfl (fun w => exec_quoI i 15 _ (by decide) rfl (by kernel_rfl) (by kernel_rfl) (by omega) rfl)) ?_
        refine Obs.cons (Ob.imm rfl (fun w => by kernel_rfl)) ?_
        refine Obs.cons (Ob.imm rfl (fun w => exec_quoI i 15 _ (by decide) rfl (by kernel_rfl) (by kernel_rfl) (by omega) rfl)) ?_
        refine Obs.cons (Ob.imm rfl (fun w => exec_idxR (i / 15) hk rfl (by kernel_rfl) (by kernel_rfl))) ?_
        refine Obs.cons (Ob.load1 b3 (i / 15) rfl rfl (by kernel_rfl) (block_lt_of_cell hxa) hxa (fun w h => run_loadI w h)) ?_
        refine Obs.cons (Ob.load b0 0 (bl b) rfl rfl (by kernel_rfl) hS0.rb Tryd.underlying23 rfl (by rw [bl_length]; exact info32)) ?_
        refine Obs.cons (Ob.imm rfl (fun w => by kernel_rfl)) ?_
        refine Obs.cons (Ob.call 66 #[bv b, .int .i64 (i : Int)] rfl (fun w => by kernel_rfl) (fun w _ => hBit w)) ?_
        refine Obs.cons (Ob.imm rfl (fun w => by kernel_rfl)) ?_
        refine Obs.cons (Ob.imm rfl (fun w => exec_remI i 15 _ (by decide) rfl (by kernel_rfl) (by kernel_rfl) rfl)) ?_
        refine Obs.cons (Ob.imm rfl (fun w => exec_c85 (i % 15) (by omega) rfl (by kernel_rfl))) ?_
        refine Obs.cons (Ob.imm rfl (fun w => exec_shlI t (i % 15) _ ht hr rfl (by kernel_rfl) (by kernel_rfl) rfl)) ?_
        refine Obs.cons (Ob.imm rfl (fun w => exec_addI (f (i / 15)) ((t * 2 ^ (i % 15) : Nat) : Int) _ rfl (by kernel_rfl) (by kernel_rfl) (by rw [IntKind.wrap_i64]; omega))) ?_
        refine Obs.cons (Ob.imm rfl (fun w => exec_idxR (i / 15) hk rfl (by kernel_rfl) (by kernel_rfl))) ?_
        refine Obs.cons (Ob.fin1 (.int .i64 (f (i / 15) + ((t * 2 ^ (i % 15) : Nat) : Int))) rfl rfl (hS0.sx.cellthere hk) rfl (by kernel_rfl) (by kernel_rfl) (fun w v0 h hf => run_storeI w v0 h hf)) ?_
        exact Obs.nil
      have hS := Hid.of (RX.set (f' := d15 (b % 2 ^ (i + 1))) (hS0.grown hD.gr) (i / 15) hk (f (i / 15) + ((t * 2 ^ (i % 15) : Nat) : Int)) (by rw [hst, if_pos rfl]) (fun j hj => by rw [hst, if_neg hj]))
      clear hD HX hS0 hst hBit hfd hb2 ht hr hk hi et ef
      simp only [finAct, putAll, valsFrom, Plan.value, Act.put, List.setIfInBounds_toArray, List.set_cons_zero, List.set_cons_succ]
      go_wp2
      go_roundw
      case rel => exact ⟨i + 1, by simp, hii.out, hS.out⟩
      case measure => have := hii.out; simp [intOf]; omega
    · obtain rfl : i = 255 := by omega
      rw [← H_pow] at hX
      have hr := hX.sx.range
      have ht := hX.sx.tr
      have hf := hX.sx.f2
      have hW := hX.sx.gw
      clear hX
      obtain ⟨n, hn0⟩ : ∃ n, n = b % H := ⟨_, rfl⟩
      rw [← hn0] at hr
      have hn := Hid.of hn0
      clear hn0
      go_wp2_with (with_reducible show wpList _ _ _ ({ dst := _, op := Op.load 77 _, type := _, pos := _, after := _, guard := _ } :: _) _ _; refine Shut.out ?_)
      show wpList _ _ _ _ _ _
      refine wpList_load_mid rfl 77 _ rfl b3 0 rfl (rl (d15 n)) _ hr Tryd.underlying77 rfl (by rw [rl_length]; exact infoR) ?_
      simp only [Act.put, List.setIfInBounds_toArray, List.set_cons_zero, List.set_cons_succ]
      refine wpList_store_mid rfl 77 _ _ rfl b2 0 (rl (d15 n)).toArray rfl rfl (by rw [List.size_toArray, rl_length]; exact ht) (by rw [List.size_toArray, rl_length]; exact infoR) (all_oneCell_toArray (rl_one _)) ?_
      simp only [Act.put]
      apply wpList_nil
      repeat go_step
      refine bodyPost_ret (v := rn n) (result_cells Tryd.results63 _ _ b2 (rl (d15 n)) ?hp (World.rangeAt_setCells_same _ _ _ _ (by rw [rl_length]; exact ht)) Tryd.underlying77 rfl (by rw [rl_length]; exact infoR)) ?hd ?_
      case hp => rfl
      case hd => rfl
      exact ⟨by rw [hn.out], grown_setCells hf _ _ hW⟩
end Go.Proofs.YtoimglbjepppmaaDoor

namespace FieldNum
theorem bit15_eq (m i : Nat) : m / 32768 ^ (i / 15) % 32768 / 2 ^ (i % 15) % 2 = m / 2 ^ i % 2 := by
  have e1 : (32768 : Nat) = 2 ^ 15 := by decide
  have hr : i % 15 < 15 := Nat.mod_lt _ (by decide)
  have h : m / 2 ^ i = m / 32768 ^ (i / 15) / 2 ^ (i % 15) := by
    rw [Nat.div_div_eq_div_mul, e1, ← Nat.pow_mul, ← Nat.pow_add, Nat.div_add_mod]
  rw [h]
  generalize m / 32768 ^ (i / 15) = x at *
  generalize i % 15 = r at *
  rcases (by omega : r = 0 ∨ r = 1 ∨ r = 2 ∨ r = 3 ∨ r = 4 ∨ r = 5 ∨ r = 6 ∨ r = 7 ∨ r = 8 ∨ r = 9 ∨ r = 10 ∨ r = 11 ∨ r = 12 ∨ r = 13 ∨ r = 14) with rfl | rfl | rfl | rfl | rfl | rfl | rfl | rfl | rfl | rfl | rfl | rfl | rfl | rfl | rfl <;> simp only [Nat.reducePow] <;> omega
end FieldNum
namespace Go.Proofs.YtoimglbjepppmaaDoor
open Go.RowKit Go.Shelf FieldNum

/-- bytes that are laid, and the digits they are made of -/
structure WX (w0 : World) (g a r : Nat) (n m : Nat) (wr : World) : Prop where
  lo : ∀ j, j < 32 → wr.cell? ⟨g, j, none⟩ = some (.int .u8 ((n / 256 ^ j % 256 : Nat) : Int))
  fr : ∀ j, wr.frozen? ⟨g, j, none⟩ = false
  ra : wr.rangeAt a 0 (rl (d15 m))
  na : a ≠ g
  tr : wr.there r 0 32
  ne : g ≠ r
  fg : w0.heap.size ≤ g
  f2 : w0.heap.size ≤ r
  gw : Grown w0 wr
theorem WX.grown {w0 wr w' : World} {g a r n m : Nat} (s : WX w0 g a r n m wr) (hg : Grown wr w') : WX w0 g a r n m w' :=
  ⟨fun j hj => by rw [grown_cell hg g j (block_lt_of_cell (s.lo j hj))]; exact s.lo j hj, fun j => (hg.2.1 _).trans (s.fr j), rangeAt_grown s.ra hg, s.na, there_grown s.tr hg, s.ne, s.fg, s.f2, grown_trans s.gw hg⟩
theorem WX.set {w0 wr : World} {g a r n n' m : Nat} (s : WX w0 g a r n m wr) (k : Nat) (hk : k < 32) (v : Nat) (hv : n' / 256 ^ k % 256 = v) (ho : ∀ j, j ≠ k → n' / 256 ^ j % 256 = n / 256 ^ j % 256) : WX w0 g a r n' m (wr.setCell ⟨g, k, none⟩ (.int .u8 (v : Int))) := by
  refine ⟨fun j hj => ?_, fun j => (World.frozen?_setCell _ _ _ _).trans (s.fr j), rangeAt_setCell s.ra s.na, s.na, there_setCell s.tr _ _, s.ne, s.fg, s.f2, Grown.setCell s.gw s.fg _⟩
  by_cases e : j = k
  · subst e
    have := s.lo j hj
    rw [hv]
    simp [go_sem, this]
  · rw [set_other _ _ _ _ _ e, ho j e]; exact s.lo j hj
theorem WX.cellthere {w0 wr : World} {g a r n m : Nat} (s : WX w0 g a r n m wr) {k : Nat} (hk : k < 32) : wr.there g k 1 := by
  intro j hj
  obtain rfl : j = 0 := by omega
  exact ⟨by rw [Nat.add_zero, s.lo k hk]; rfl, s.fr _⟩
theorem WX.range {w0 wr : World} {g a r n m : Nat} (s : WX w0 g a r n m wr) : wr.rangeAt g 0 (bl n) := by
  intro j v hv
  have hj : j < 32 := by have := lt_of_get hv; rwa [bl_length] at this
  rw [bl_get n j hj] at hv
  injection hv with hv
  subst hv
  rw [Nat.zero_add]; exact s.lo j hj

set_option maxRecDepth 100000 in
set_option maxHeartbeats 4000000 in
theorem written_r (n : Nat) (hn : n < H) (w : World) : Calls Tryd.prog 74 #[rn n] w fun e w' => e = .returned (bv (n % p)) ∧ Grown w w' := by
  go_enter Tryd.func74, Tryd.ntmps74
  repeat ((fail_if_success (with_reducible show Code.wp _ (Code.region _ _ _) _ _ _)); go_step)
  refine wp_plain [.box 77 (rl (d15 n)), .new 23 32] (by kernel_rfl) (fun β => ?_) (fun β w1 hD => ?_)
  · refine Obs.cons (Ob.box rfl rfl (by kernel_rfl)) ?_
    refine Obs.cons (Ob.new _ rfl rfl zero32.1 (by simp [bl_length])) ?_
    exact Obs.nil
  obtain ⟨hfa, hra⟩ := hD.bx 0 _ _ rfl
  obtain ⟨hf2, ht2⟩ := hD.nw 1 _ _ rfl
  have hn02 := hD.ap 0 1 _ _ rfl rfl rfl rfl (by decide)
  have hta : w1.there (β 0) 0 17 := fun j hj => ⟨by rw [Nat.zero_add, cell_r hra hj]; rfl, (hD.gr.2.1 _).trans (frozen_past hfa)⟩
  have hW := hD.gr
  clear hD
  simp only [finAct, putAll, valsFrom, Plan.value, Act.put, List.setIfInBounds_toArray, List.set_cons_zero, List.set_cons_succ]
  generalize β 0 = b0 at *
  generalize β (0 + 1) = b2 at *
  repeat ((fail_if_success (with_reducible show Code.wp _ (Code.region _ _ _) _ _ _)); go_step)
  refine wp_plain [.box 23 (bl 0)] (by kernel_rfl) (fun β => ?_) (fun β w2 hD => ?_)
  · refine Obs.cons (Ob.newz (bl 0) rfl rfl zero32.1) ?_
    exact Obs.nil
  obtain ⟨hf3, hr3⟩ := hD.bx 0 _ _ rfl
  have hb0 : b0 < w1.heap.size := block_lt_of_cell (cell_r hra (j := 0) (by decide))
  have hb2 : b2 < w1.heap.size := by
    obtain ⟨v, hv⟩ := Option.isSome_iff_exists.1 (ht2 0 (by decide)).1
    exact block_lt_of_cell hv
  have hP0 : WX w (β 0) b0 b2 0 n w2 := ⟨fun j hj => cell_b hr3 hj, fun j => (hD.gr.2.1 _).trans (frozen_past hf3), rangeAt_grown hra hD.gr, by omega, there_grown ht2 hD.gr, by omega, Nat.le_trans hW.2.2 hf3, hf2, grown_trans hW hD.gr⟩
  have hta2 := there_grown hta hD.gr
  clear hD hra hf2 ht2 hW hf3 hr3 hta hb0 hb2
  simp only [finAct, putAll, valsFrom, Plan.value, Act.put, List.setIfInBounds_toArray, List.set_cons_zero, List.set_cons_succ]
  generalize β 0 = b3 at *
  go_wp2_with (with_reducible show wpList _ _ _ ({ dst := _, op := Op.load 77 _, type := _, pos := _, after := _, guard := _ } :: _) _ _; refine Shut.out ?_)
  show wpList _ _ _ _ _ _
  refine wpList_load_mid rfl 77 _ rfl b0 0 rfl (rl (d15 n)) _ hP0.ra Tryd.underlying77 rfl (by rw [rl_length]; exact infoR) ?_
  simp only [Act.put, List.setIfInBounds_toArray, List.set_cons_zero, List.set_cons_succ]
  go_wp2_with fail
  refine Calls.mono (least_r n hn _) ?_
  rintro e w3 ⟨rfl, hg⟩
  dsimp only
  go_step
  obtain ⟨m, hm0⟩ : ∃ m, m = n % p := ⟨_, rfl⟩
  have hm := Hid.of hm0
  have hmH := Hid.of (show m < H by rw [hm0]; exact Nat.lt_trans (Nat.mod_lt _ p_pos) (by decide +kernel))
  rw [← hm0]
  clear hm0
  have hP1 := hP0.grown hg
  have hta3 := there_grown hta2 hg
  refine wpList_store_mid rfl 77 _ _ rfl b0 0 (rl (d15 m)).toArray rfl rfl (by rw [List.size_toArray, rl_length]; exact hta3) (by rw [List.size_toArray, rl_length]; exact infoR) (all_oneCell_toArray (rl_one _)) ?_
  simp only [Act.put]
  have hP2 : WX w b3 b0 b2 (m % 2 ^ 0) m (w3.setCells b0 0 (rl (d15 m)).toArray.toList) := by
    refine ⟨fun j hj => ?_, fun j => by rw [World.frozen?_setCells]; exact hP1.fr j, World.rangeAt_setCells_same _ _ _ _ (by rw [rl_length]; exact hta3), hP1.na, World.there_setCells hP1.tr _ _ _, hP1.ne, hP1.fg, hP1.f2, grown_setCells hfa _ _ hP1.gw⟩
    rw [Nat.pow_zero, Nat.mod_one]
    exact cell_b (World.rangeAt_setCells_apart hP1.range _ _ _ (.inl (Ne.symm hP1.na))) hj
  apply wpList_nil
  clear hP0 hP1 hta2 hta3 hg
  generalize w3.setCells b0 0 (rl (d15 m)).toArray.toList = w4 at *
  go_wp2
  go_loopw [4] (fun v4 wr => ∃ i : Nat, v4 = .int .i64 (i : Int) ∧ i ≤ 255 ∧ WX w b3 b0 b2 (m % 2 ^ i) m wr) (fun v4 _ => 255 - (intOf v4).toNat)
  case atStart => exact ⟨0, rfl, by decide, hP2⟩
  case round =>
    obtain ⟨i, rfl, hi, hX⟩ := hrel
    clear hP2
    by_cases hlt : i < 255
    · have k1 : (i : Int) < 255 := by omega
      have HX := Hid.of (hX.grown (gdrew wr))
      have hii := Hid.of hlt
      clear hX hi hlt
      go_wp2
      have hi := hii.out
      have hq : i / 8 < 32 := by omega
      have hk : i / 15 < 17 := by omega
      have hr : i % 15 < 15 := Nat.mod_lt _ (by decide)
      have hs : i % 8 < 8 := Nat.mod_lt _ (by decide)
      have hS0 := HX.out
      obtain ⟨t, et⟩ : ∃ t, t = m / 2 ^ i % 2 := ⟨_, rfl⟩
      obtain ⟨c, ec⟩ : ∃ c, c = m % 2 ^ i / 256 ^ (i / 8) % 256 := ⟨_, rfl⟩
      obtain ⟨D, eD⟩ : ∃ D, D = m / 32768 ^ (i / 15) % 32768 := ⟨_, rfl⟩
      have ht : t < 2 := by rw [et]; exact Nat.mod_lt _ (by decide)
      have hst : ∀ j, (m % 2 ^ (i + 1)) / 256 ^ j % 256 = if j = i / 8 then (m % 2 ^ i) / 256 ^ j % 256 + t * 2 ^ (i % 8) else (m % 2 ^ i) / 256 ^ j % 256 := by
        intro j
        rw [et]
        exact dig_step 8 m i j (by decide)
      have hcs : c + t * 2 ^ (i % 8) < 256 := by
        have := hst (i / 8)
        rw [if_pos rfl, ← ec] at this
        rw [← this]; exact Nat.mod_lt _ (by decide)
      have hDs : D / 2 ^ (i % 15) < 32768 := Nat.lt_of_le_of_lt (Nat.div_le_self _ _) (by rw [eD]; exact Nat.mod_lt _ (by decide))
      have htt : D / 2 ^ (i % 15) % 2 = t := by rw [eD, et]; exact bit15_eq m i
      have hxa : wr.drew.cell? ⟨b3, i / 8, none⟩ = some (.int .u8 (c : Int)) := by rw [ec]; exact hS0.lo (i / 8) hq
      have hxb : wr.drew.cell? ⟨b0, i / 15, none⟩ = some (.int .i64 (D : Int)) := by rw [eD]; exact cell_r hS0.ra hk
      refine wp_loose_fin [.imm (.int .i64 (i : Int)), .imm (.int .i64 ((i / 8 : Nat) : Int)), .imm (.int .i64 (i : Int)), .imm (.int .i64 ((i / 8 : Nat) : Int)), .imm (.pointer (some ⟨b3, i / 8, none⟩)), .val (.int .u8 (c : Int)), .imm (.int .i64 (i : Int)), .imm (.int .i64 ((i / 15 : Nat) : Int)), .imm (.pointer (some ⟨b0, i / 15, none⟩)), .val (.int .i64 (D : Int)), .imm (.int .i64 (i : Int)), .imm (.int .i64 ((i % 15 : Nat) : Int)), .imm (.int .u64 ((i % 15 : Nat) : Int)), .imm (.int .i64 ((D / 2 ^ (i % 15) : Nat) : Int)), .imm (.int .i64 (t : Int)), .imm (.int .u8 (t : Int)), .imm (.int .i64 (i : Int)), .imm (.int .i64 ((i % 8 : Nat) : Int)), .imm (.int .u64 ((i % 8 : Nat) : Int)), .imm (.int .u8 ((t * 2 ^ (i % 8) : Nat) : Int)), .imm (.int .u8 ((c + t * 2 ^ (i % 8) : Nat) : Int)), .imm (.pointer (some ⟨b3, i / 8, none⟩)), .fin] b3 (i / 8) (fun _ => [.int .u8 ((c + t * 2 ^ (i % 8) : Nat) : Int)]) (by kernel_rfl) (by kernel_rfl) (fun β => ?_) (fun β w1 hD => ?_)
      · refine Obs.cons (Ob.imm rfl (fun w => by kernel_rfl)) ?_
        refine Obs.cons (Ob.imm rfl (fun w => exec_quoI i 8 _ (by decide) rfl (by kernel_rfl) (by kernel_rfl) (by omega) rfl)) ?_
        refine Obs.cons (Ob.imm rfl (fun w => by kernel_rfl)) ?_
        refine Obs.cons (Ob.imm rfl (fun w => exec_quoI i 8 _ (by decide) rfl (by kernel_rfl) (by kernel_rfl) (by omega) rfl)) ?_
        refine Obs.cons (Ob.imm rfl (fun w => exec_idx (i / 8) hq rfl (by kernel_rfl) (by kernel_rfl))) ?_
        refine Obs.cons (Ob.load1 b3 (i / 8) rfl rfl (by kernel_rfl) (block_lt_of_cell hxa) hxa (fun w h => run_load8 w h)) ?_
        refine Obs.cons (Ob.imm rfl (fun w => by kernel_rfl)) ?_
        refine Obs.cons (Ob.imm rfl (fun w => exec_quoI i 15 _ (by decide) rfl (by kernel_rfl) (by kernel_rfl) (by omega) rfl)) ?_
        refine Obs.cons (Ob.imm rfl (fun w => exec_idxR (i / 15) hk rfl (by kernel_rfl) (by kernel_rfl))) ?_
        refine Obs.cons (Ob.load1 b0 (i / 15) rfl rfl (by kernel_rfl) (block_lt_of_cell hxb) hxb (fun w h => run_loadI w h)) ?_
        refine Obs.cons (Ob.imm rfl (fun w => by kernel_rfl)) ?_
        refine Obs.cons (Ob.imm rfl (fun w => exec_remI i 15 _ (by decide) rfl (by kernel_rfl) (by kernel_rfl) rfl)) ?_
        refine Obs.cons (Ob.imm rfl (fun w => exec_c85 (i % 15) (by omega) rfl (by kernel_rfl))) ?_
        refine Obs.cons (Ob.imm rfl (fun w => exec_shrI D (i % 15) _ hr rfl (by kernel_rfl) (by kernel_rfl) rfl)) ?_
        refine Obs.cons (Ob.imm rfl (fun w => exec_and1 (D / 2 ^ (i % 15)) _ hDs rfl (by kernel_rfl) (by kernel_rfl) htt)) ?_
        refine Obs.cons (Ob.imm rfl (fun w => exec_c35 t (by omega) rfl (by kernel_rfl))) ?_
        refine Obs.cons (Ob.imm rfl (fun w => by kernel_rfl)) ?_
        refine Obs.cons (Ob.imm rfl (fun w => exec_remI i 8 _ (by decide) rfl (by kernel_rfl) (by kernel_rfl) rfl)) ?_
        refine Obs.cons (Ob.imm rfl (fun w => exec_c85 (i % 8) (by omega) rfl (by kernel_rfl))) ?_
        refine Obs.cons (Ob.imm rfl (fun w => exec_shl8 t (i % 8) _ ht hs rfl (by kernel_rfl) (by kernel_rfl) rfl)) ?_
        refine Obs.cons (Ob.imm rfl (fun w => exec_add8 c (t * 2 ^ (i % 8)) _ rfl hcs rfl (by kernel_rfl) (by kernel_rfl))) ?_
        refine Obs.cons (Ob.imm rfl (fun w => exec_idx (i / 8) hq rfl (by kernel_rfl) (by kernel_rfl))) ?_
        refine Obs.cons (Ob.fin1 (.int .u8 ((c + t * 2 ^ (i % 8) : Nat) : Int)) rfl rfl (hS0.cellthere hq) rfl (by kernel_rfl) (by kernel_rfl) (fun w v0 h hf => run_store8 w v0 h hf)) ?_
        exact Obs.nil
      have hS := Hid.of (WX.set (n' := m % 2 ^ (i + 1)) (hS0.grown hD.gr) (i / 8) hq (c + t * 2 ^ (i % 8)) (by rw [hst, if_pos rfl, ← ec]) (fun j hj => by rw [hst, if_neg hj]))
      clear hD HX hS0 hst hxa hxb htt hDs hcs ht hr hk hi hq hs et ec eD
      simp only [finAct, putAll, valsFrom, Plan.value, Act.put, List.setIfInBounds_toArray, List.set_cons_zero, List.set_cons_succ]
      go_wp2
      go_roundw
      case rel => exact ⟨i + 1, by simp, hii.out, hS.out⟩
      case measure => have := hii.out; simp [intOf]; omega
    · obtain rfl : i = 255 := by omega
      have hr := hX.range
      rw [← H_pow, Nat.mod_eq_of_lt hmH.out] at hr
      have ht := hX.tr
      have hf := hX.f2
      have hW := hX.gw
      clear hX
      go_wp2_with (with_reducible show wpList _ _ _ ({ dst := _, op := Op.load 23 _, type := _, pos := _, after := _, guard := _ } :: _) _ _; refine Shut.out ?_)
      show wpList _ _ _ _ _ _
      refine wpList_load32 rfl _ rfl _ rfl m hr ?_
      simp only [Act.put, List.setIfInBounds_toArray, List.set_cons_zero, List.set_cons_succ]
      refine wpList_store32 rfl _ _ rfl _ m rfl rfl ht ?_
      simp only [Act.put]
      apply wpList_nil
      repeat go_step
      refine bodyPost_ret (result32 Tryd.results74 _ _ b2 _ ?hp (World.rangeAt_setCells_same _ _ _ _ (by rw [bl_length]; exact ht))) ?hd ?_
      case hp => rfl
      case hd => rfl
      exact ⟨by rw [hm.out], grown_setCells hf _ _ hW⟩
end Go.Proofs.YtoimglbjepppmaaDoor

namespace FieldNum
/-- the bits of the exponent, from the highest -/
def ebit (z i : Nat) : Nat := if 8 ≤ i ∨ z / 2 ^ i % 2 = 0 then 1 else 0
def ee (z n : Nat) : Nat → Nat
  | 0 => 0
  | k + 1 => 2 * ee z n k + ebit z (n - 1 - k)
theorem ee_sq {A R Q e : Nat} (h : R % p = A ^ e % p) (hq : Q % p = R * R % p) : Q % p = A ^ (2 * e) % p := by
  rw [hq, Nat.mul_mod, h, ← Nat.mul_mod, ← Nat.pow_add]; congr 2; omega
theorem ee_mul {A R Q e : Nat} (h : R % p = A ^ e % p) (hq : Q % p = R * A % p) : Q % p = A ^ (e + 1) % p := by
  rw [hq, Nat.mul_mod, h, ← Nat.mul_mod, ← Nat.pow_succ]
end FieldNum
namespace Go.Proofs.YtoimglbjepppmaaDoor
open Go.RowKit Go.Shelf FieldNum

theorem exec_geqI {o : Oper} {ρ : Operand → Value} {x y : Operand} {t : TypeId} {w : World} (m n : Int) (ho : o.op = .binOp .geq 3 x y t) (hx : ρ x = .int .i64 m) (hy : ρ y = .int .i64 n) (b : Bool) (hb : decide (n ≤ m) = b) : (execOp ρ o).run Tryd.prog w = .ok (.value (.bool b)) w := by
  subst hb
  unfold execOp
  simp only [ho, hx, hy]
  simp [go_sem]

/-- the power so far -/
structure VX (w0 : World) (g a r R A : Nat) (wr : World) : Prop where
  rg : wr.rangeAt g 0 (rl (d15 R))
  th : wr.there g 0 17
  ra : wr.rangeAt a 0 (rl (d15 A))
  na : a ≠ g
  tr : wr.there r 0 17
  ne : g ≠ r
  fg : w0.heap.size ≤ g
  f2 : w0.heap.size ≤ r
  gw : Grown w0 wr
theorem VX.grown {w0 wr w' : World} {g a r R A : Nat} (s : VX w0 g a r R A wr) (hg : Grown wr w') : VX w0 g a r R A w' :=
  ⟨rangeAt_grown s.rg hg, there_grown s.th hg, rangeAt_grown s.ra hg, s.na, there_grown s.tr hg, s.ne, s.fg, s.f2, grown_trans s.gw hg⟩
theorem VX.store {w0 wr : World} {g a r R A : Nat} (s : VX w0 g a r R A wr) (Q : Nat) : VX w0 g a r Q A (wr.setCells g 0 (rl (d15 Q))) :=
  ⟨World.rangeAt_setCells_same _ _ _ _ (by rw [rl_length]; exact s.th), World.there_setCells s.th _ _ _, World.rangeAt_setCells_apart s.ra _ _ _ (.inl s.na), s.na, World.there_setCells s.tr _ _ _, s.ne, s.fg, s.f2, grown_setCells s.fg _ _ s.gw⟩

set_option maxRecDepth 100000 in
set_option maxHeartbeats 4000000 in
theorem power_r (A n z : Nat) (hA : A < H) (hn1 : 1 ≤ n) (hn : n ≤ 255) (hz : z < 256) (w : World) : Calls Tryd.prog 95 #[rn A, .int .i64 (n : Int), .int .i64 (z : Int)] w fun e w' => (∃ q, e = .returned (rn q) ∧ q < H ∧ q % p = A ^ (ee z n n) % p) ∧ Grown w w' := by
  go_enter Tryd.func95, Tryd.ntmps95
  repeat ((fail_if_success (with_reducible show Code.wp _ (Code.region _ _ _) _ _ _)); go_step)
  refine wp_plain [.box 77 (rl (d15 A)), .new 77 17] (by kernel_rfl) (fun β => ?_) (fun β w1 hD => ?_)
  · refine Obs.cons (Ob.box rfl rfl (by kernel_rfl)) ?_
    refine Obs.cons (Ob.new _ rfl rfl zeroR (by simp [rl_length])) ?_
    exact Obs.nil
  obtain ⟨hfa, hra⟩ := hD.bx 0 _ _ rfl
  obtain ⟨hf2, ht2⟩ := hD.nw 1 _ _ rfl
  have hW := hD.gr
  clear hD
  simp only [finAct, putAll, valsFrom, Plan.value, Act.put, List.setIfInBounds_toArray, List.set_cons_zero, List.set_cons_succ]
  generalize β 0 = b0 at *
  generalize β (0 + 1) = b2 at *
  repeat ((fail_if_success (with_reducible show Code.wp _ (Code.region _ _ _) _ _ _)); go_step)
  refine wp_plain [.val (rn 1), .new 77 17, .put 1 1 (fun _ => rl (d15 1))] (by kernel_rfl) (fun β => ?_) (fun β w2 hD => ?_)
  · refine Obs.cons (Ob.call 60 #[.int .i64 1] rfl (fun w => by kernel_rfl) (fun w _ => small_v 1 (by decide) 1 rfl w)) ?_
    refine Obs.cons (Ob.new _ rfl rfl zeroR (by simp [rl_length])) ?_
    refine Obs.cons (Ob.put 77 rfl rfl rfl (by kernel_rfl) (by kernel_rfl) (by rw [rl_length]; exact infoR) (rl_one _)) ?_
    exact Obs.nil
  obtain ⟨hf7, ht7⟩ := hD.nw 1 _ _ rfl
  have hr7 : w2.rangeAt (β 1) 0 (rl (d15 1)) := hD.rg 2 1 1 (fun _ => rl (d15 1)) rfl
  have hP0 : VX w (β 1) b0 b2 1 A w2 := ⟨hr7, ht7, rangeAt_grown hra hD.gr, by
      have : b0 < w1.heap.size := block_lt_of_cell (cell_r hra (j := 0) (by decide))
      omega, there_grown ht2 hD.gr, by
      obtain ⟨v, hv⟩ := Option.isSome_iff_exists.1 (ht2 0 (by decide)).1
      have : b2 < w1.heap.size := block_lt_of_cell hv
      omega, Nat.le_trans hW.2.2 hf7, hf2, grown_trans hW hD.gr⟩
  clear hD hra hf2 ht2 hW hf7 ht7 hr7 hfa
  simp only [finAct, putAll, valsFrom, Plan.value, Act.put, List.setIfInBounds_toArray, List.set_cons_zero, List.set_cons_succ]
  generalize β (0 + 1) = b7 at *
  have en : wrap64 ((n : Int) - 1) = (n : Int) - 1 := by unfold wrap64; omega
  have HN := Hid.of (And.intro hn1 (And.intro hn hz))
  clear hn1 hn hz
  go_wp2
  go_loopw [8] (fun v8 wr => ∃ (k R : Nat), v8 = .int .i64 ((n : Int) - 1 - k) ∧ k ≤ n ∧ VX w b7 b0 b2 R A wr ∧ R < H ∧ R % p = A ^ (ee z n k) % p) (fun v8 _ => (intOf v8 + 1).toNat)
  case atStart => exact ⟨0, 1, by rw [en]; simp, Nat.zero_le _, hP0, by decide, by rw [show ee z n 0 = 0 from rfl, Nat.pow_zero]⟩
  case round =>
    obtain ⟨k, R, rfl, hk, hX, hR, hq⟩ := hrel
    clear hP0 en
    by_cases hlt : k < n
    · obtain ⟨i, hi0⟩ : ∃ i : Nat, i = n - 1 - k := ⟨_, rfl⟩
      have ei : (n : Int) - 1 - k = (i : Int) := by omega
      have hi := Hid.of hi0
      have hii := Hid.of (show i < 255 by have := HN.out; omega)
      have hqq := Hid.of hq
      have hkk := Hid.of hlt
      rw [ei]
      have hei := Hid.of ei
      clear hi0 ei hq hk hlt
      repeat ((fail_if_success (with_reducible show Code.wp _ (Code.region _ _ _) _ _ _)); go_step)
      refine wp_plain [.imm (.int .i64 (i : Int)), .imm (.bool true)] (by kernel_rfl) (fun β => ?_) (fun β ww hD => ?_)
      · refine Obs.cons (Ob.imm rfl (fun w => by kernel_rfl)) ?_
        refine Obs.cons (Ob.imm rfl (fun w => exec_geqI (i : Int) 0 rfl (by kernel_rfl) (by kernel_rfl) true (decide_eq_true (by omega)))) ?_
        exact Obs.nil
      have hX1 := hX.grown hD.gr
      clear hD hX
      simp only [finAct, putAll, valsFrom, Plan.value, Act.put, List.setIfInBounds_toArray, List.set_cons_zero, List.set_cons_succ]
      repeat ((fail_if_success (with_reducible show Code.wp _ (Code.region _ _ _) _ _ _)); go_step)
      refine wp_plain_fin [.val (rn R), .val (rn R), .any rn [] (fun _ z => z < H ∧ z % p = R * R % p), .fin] b7 0 (fun β => rl (d15 (β 2))) (by kernel_rfl) (fun β => ?_) (fun β Sw hD => ?_)
      · refine Obs.cons (Ob.load b7 0 (rl (d15 R)) rfl rfl (by kernel_rfl) hX1.rg Tryd.underlying77 rfl (by rw [rl_length]; exact infoR)) ?_
        refine Obs.cons (Ob.load b7 0 (rl (d15 R)) rfl rfl (by kernel_rfl) hX1.rg Tryd.underlying77 rfl (by rw [rl_length]; exact infoR)) ?_
        refine Obs.cons (Ob.any 68 #[rn R, rn R] rfl (fun w => by kernel_rfl) (fun _ w _ => times_r R R hR hR w)) ?_
        refine Obs.cons (Ob.fin rfl (by rw [rl_length]; exact hX1.th) rfl (by kernel_rfl) (by kernel_rfl) (by rw [rl_length]; exact infoR) (rl_one _)) ?_
        exact Obs.nil
      obtain ⟨hS, qS⟩ : β 2 < H ∧ β 2 % p = R * R % p := hD.an 2 _ _ _ rfl
      have hX2 := (hX1.grown hD.gr).store (β 2)
      clear hD
      simp only [finAct, putAll, valsFrom, Plan.value, Act.put, List.setIfInBounds_toArray, List.set_cons_zero, List.set_cons_succ]
      generalize β (0 + 1 + 1) = S at *
      generalize Sw.setCells b7 0 (rl (d15 S)) = Sv at *
      replace qS := Hid.of qS
      clear hX1
      have hS2 := Hid.of (ee_sq hqq.out qS.out)
      clear qS
      repeat ((fail_if_success (with_reducible show Code.wp _ (Code.region _ _ _) _ _ _)); go_step)
      have fin : ∀ (Q : Nat) (e2 : Nat) (wq : World), VX w b7 b0 b2 Q A wq → Q < H → Q % p = A ^ (2 * ee z n k + e2) % p → ebit z i = e2 → ∃ (k' R' : Nat), Value.int IntKind.i64 ((n : Int) - 1 - (k + 1 : Nat)) = .int .i64 ((n : Int) - 1 - k') ∧ k' ≤ n ∧ VX w b7 b0 b2 R' A wq ∧ R' < H ∧ R' % p = A ^ (ee z n k') % p := by
        intro Q e2 wq h1 h2 h3 h4
        refine ⟨k + 1, Q, rfl, hkk.out, h1, h2, ?_⟩
        rw [h3, ← h4, hi.out]; rfl
      have hfin := Hid.of fin
      have eL := Hid.of (show wrap64 ((i : Int) - 1) = (n : Int) - 1 - ((k + 1 : Nat) : Int) by have := hii.out; have := hei.out; unfold wrap64; omega)
      clear fin hqq
      by_cases h8 : 8 ≤ i
      · refine wp_plain [.imm (.int .i64 (i : Int)), .imm (.bool true), .imm (.bool true), .skip, .skip, .skip, .skip, .skip, .skip, .imm (.bool true)] (by kernel_rfl) (fun β => ?_) (fun β ww hD => ?_)
        · refine Obs.cons (Ob.imm rfl (fun w => by kernel_rfl)) ?_
          refine Obs.cons (Ob.imm rfl (fun w => exec_geqI (i : Int) 8 rfl (by kernel_rfl) (by kernel_rfl) true (decide_eq_true (by omega)))) ?_
          refine Obs.cons (Ob.imm rfl (fun w => by kernel_rfl)) ?_
          refine Obs.cons (Ob.skip (by kernel_rfl)) ?_
          refine Obs.cons (Ob.skip (by kernel_rfl)) ?_
          refine Obs.cons (Ob.skip (by kernel_rfl)) ?_
          refine Obs.cons (Ob.skip (by kernel_rfl)) ?_
          refine Obs.cons (Ob.skip (by kernel_rfl)) ?_
          refine Obs.cons (Ob.skip (by kernel_rfl)) ?_
          refine Obs.cons (Ob.imm rfl (fun w => by kernel_rfl)) ?_
          exact Obs.nil
        have he : ebit z i = 1 := if_pos (.inl h8)
        have hX3 := hX2.grown hD.gr
        have hE := Hid.of he
        clear hD hX2 he h8
        simp only [finAct, putAll, valsFrom, Plan.value, Act.put, List.setIfInBounds_toArray, List.set_cons_zero, List.set_cons_succ]
        repeat ((fail_if_success (with_reducible show Code.wp _ (Code.region _ _ _) _ _ _)); go_step)
        refine wp_plain_fin [.val (rn S), .val (rn A), .any rn [] (fun _ z => z < H ∧ z % p = S * A % p), .fin] b7 0 (fun β => rl (d15 (β 2))) (by kernel_rfl) (fun β => ?_) (fun β Qw hD => ?_)
        · refine Obs.cons (Ob.load b7 0 (rl (d15 S)) rfl rfl (by kernel_rfl) hX3.rg Tryd.underlying77 rfl (by rw [rl_length]; exact infoR)) ?_
          refine Obs.cons (Ob.load b0 0 (rl (d15 A)) rfl rfl (by kernel_rfl) hX3.ra Tryd.underlying77 rfl (by rw [rl_length]; exact infoR)) ?_
          refine Obs.cons (Ob.any 68 #[rn S, rn A] rfl (fun w => by kernel_rfl) (fun _ w _ => times_r S A hS hA w)) ?_
          refine Obs.cons (Ob.fin rfl (by rw [rl_length]; exact hX3.th) rfl (by kernel_rfl) (by kernel_rfl) (by rw [rl_length]; exact infoR) (rl_one _)) ?_
          exact Obs.nil
        obtain ⟨hQ, qQ⟩ : β 2 < H ∧ β 2 % p = S * A % p := hD.an 2 _ _ _ rfl
        have hX4 := (hX3.grown hD.gr).store (β 2)
        clear hD
        simp only [finAct, putAll, valsFrom, Plan.value, Act.put, List.setIfInBounds_toArray, List.set_cons_zero, List.set_cons_succ]
        generalize β (0 + 1 + 1) = Q at *
        generalize Qw.setCells b7 0 (rl (d15 Q)) = Qv at *
        replace qQ := Hid.of qQ
        clear hX3
        have hQ2 := Hid.of (ee_mul hS2.out qQ.out)
        have HX4 := Hid.of hX4
        have hQH := Hid.of hQ
        clear qQ hX4 hQ hS hR hA
        go_wp2
        rw [eL.out]
        exact ⟨hfin.out Q 1 _ HX4.out hQH.out hQ2.out hE.out, by have := hei.out; have := hii.out; simp [intOf]; omega⟩
      · have hi8 : i < 8 := by omega
        by_cases hzb : z / 2 ^ i % 2 = 0
        · refine wp_plain [.imm (.int .i64 (i : Int)), .imm (.bool false), .imm (.bool false), .imm (.int .i64 (z : Int)), .imm (.int .i64 (i : Int)), .imm (.int .u64 (i : Int)), .imm (.int .i64 ((z / 2 ^ i : Nat) : Int)), .imm (.int .i64 ((0 : Nat) : Int)), .imm (.bool true), .imm (.bool true)] (by kernel_rfl) (fun β => ?_) (fun β ww hD => ?_)
          · refine Obs.cons (Ob.imm rfl (fun w => by kernel_rfl)) ?_
            refine Obs.cons (Ob.imm rfl (fun w => exec_geqI (i : Int) 8 rfl (by kernel_rfl) (by kernel_rfl) false (decide_eq_false (by omega)))) ?_
            refine Obs.cons (Ob.imm rfl (fun w => by kernel_rfl)) ?_
            refine Obs.cons (Ob.imm (by kernel_rfl) (fun w => by kernel_rfl)) ?_
            refine Obs.cons (Ob.imm (by kernel_rfl) (fun w => by kernel_rfl)) ?_
            refine Obs.cons (Ob.imm (by kernel_rfl) (fun w => exec_c85 i (by omega) rfl (by kernel_rfl))) ?_
            refine Obs.cons (Ob.imm (by kernel_rfl) (fun w => exec_shrI z i _ (by omega) rfl (by kernel_rfl) (by kernel_rfl) rfl)) ?_
            refine Obs.cons (Ob.imm (by kernel_rfl) (fun w => exec_and1 (z / 2 ^ i) 0 (Nat.lt_of_le_of_lt (Nat.div_le_self _ _) (by have := HN.out.2.2; omega)) rfl (by kernel_rfl) (by kernel_rfl) hzb)) ?_
            refine Obs.cons (Ob.imm (by kernel_rfl) (fun w => by kernel_rfl)) ?_
            refine Obs.cons (Ob.imm rfl (fun w => by kernel_rfl)) ?_
            exact Obs.nil
          have he : ebit z i = 1 := if_pos (.inr hzb)
          have hX3 := hX2.grown hD.gr
          have hE := Hid.of he
          clear hD hX2 he h8 hi8 hzb
          simp only [finAct, putAll, valsFrom, Plan.value, Act.put, List.setIfInBounds_toArray, List.set_cons_zero, List.set_cons_succ]
          repeat ((fail_if_success (with_reducible show Code.wp _ (Code.region _ _ _) _ _ _)); go_step)
          refine wp_plain_fin [.val (rn S), .val (rn A), .any rn [] (fun _ z => z < H ∧ z % p = S * A % p), .fin] b7 0 (fun β => rl (d15 (β 2))) (by kernel_rfl) (fun β => ?_) (fun β Qw hD => ?_)
          · refine Obs.cons (Ob.load b7 0 (rl (d15 S)) rfl rfl (by kernel_rfl) hX3.rg Tryd.underlying77 rfl (by rw [rl_length]; exact infoR)) ?_
            refine Obs.cons (Ob.load b0 0 (rl (d15 A)) rfl rfl (by kernel_rfl) hX3.ra Tryd.underlying77 rfl (by rw [rl_length]; exact infoR)) ?_
            refine Obs.cons (Ob.any 68 #[rn S, rn A] rfl (fun w => by kernel_rfl) (fun _ w _ => times_r S A hS hA w)) ?_
            refine Obs.cons (Ob.fin rfl (by rw [rl_length]; exact hX3.th) rfl (by kernel_rfl) (by kernel_rfl) (by rw [rl_length]; exact infoR) (rl_one _)) ?_
            exact Obs.nil
          obtain ⟨hQ, qQ⟩ : β 2 < H ∧ β 2 % p = S * A % p := hD.an 2 _ _ _ rfl
          have hX4 := (hX3.grown hD.gr).store (β 2)
          clear hD
          simp only [finAct, putAll, valsFrom, Plan.value, Act.put, List.setIfInBounds_toArray, List.set_cons_zero, List.set_cons_succ]
          generalize β (0 + 1 + 1) = Q at *
          generalize Qw.setCells b7 0 (rl (d15 Q)) = Qv at *
          replace qQ := Hid.of qQ
          clear hX3
          have hQ2 := Hid.of (ee_mul hS2.out qQ.out)
          have HX4 := Hid.of hX4
          have hQH := Hid.of hQ
          clear qQ hX4 hQ hS hR hA
          go_wp2
          rw [eL.out]
          exact ⟨hfin.out Q 1 _ HX4.out hQH.out hQ2.out hE.out, by have := hei.out; have := hii.out; simp [intOf]; omega⟩
        · have hz1 : z / 2 ^ i % 2 = 1 := by omega
          refine wp_plain [.imm (.int .i64 (i : Int)), .imm (.bool false), .imm (.bool false), .imm (.int .i64 (z : Int)), .imm (.int .i64 (i : Int)), .imm (.int .u64 (i : Int)), .imm (.int .i64 ((z / 2 ^ i : Nat) : Int)), .imm (.int .i64 ((1 : Nat) : Int)), .imm (.bool false), .imm (.bool false)] (by kernel_rfl) (fun β => ?_) (fun β ww hD => ?_)
          · refine Obs.cons (Ob.imm rfl (fun w => by kernel_rfl)) ?_
            refine Obs.cons (Ob.imm rfl (fun w => exec_geqI (i : Int) 8 rfl (by kernel_rfl) (by kernel_rfl) false (decide_eq_false (by omega)))) ?_
            refine Obs.cons (Ob.imm rfl (fun w => by kernel_rfl)) ?_
            refine Obs.cons (Ob.imm (by kernel_rfl) (fun w => by kernel_rfl)) ?_
            refine Obs.cons (Ob.imm (by kernel_rfl) (fun w => by kernel_rfl)) ?_
            refine Obs.cons (Ob.imm (by kernel_rfl) (fun w => exec_c85 i (by omega) rfl (by kernel_rfl))) ?_
            refine Obs.cons (Ob.imm (by kernel_rfl) (fun w => exec_shrI z i _ (by omega) rfl (by kernel_rfl) (by kernel_rfl) rfl)) ?_
            refine Obs.cons (Ob.imm (by kernel_rfl) (fun w => exec_and1 (z / 2 ^ i) 1 (Nat.lt_of_le_of_lt (Nat.div_le_self _ _) (by have := HN.out.2.2; omega)) rfl (by kernel_rfl) (by kernel_rfl) hz1)) ?_
            refine Obs.cons (Ob.imm (by kernel_rfl) (fun w => by kernel_rfl)) ?_
            refine Obs.cons (Ob.imm rfl (fun w => by kernel_rfl)) ?_
            exact Obs.nil
          have he : ebit z i = 0 := if_neg (by omega)
          have HX4 := Hid.of (hX2.grown hD.gr)
          have hE := Hid.of he
          have hSH := Hid.of hS
          clear hD hX2 he h8 hi8 hzb hz1 hS hR hA
          simp only [finAct, putAll, valsFrom, Plan.value, Act.put, List.setIfInBounds_toArray, List.set_cons_zero, List.set_cons_succ]
          go_wp2
          rw [eL.out]
          exact ⟨hfin.out S 0 _ HX4.out hSH.out hS2.out hE.out, by have := hei.out; have := hii.out; simp [intOf]; omega⟩
    · obtain rfl : k = n := by omega
      have ei : (k : Int) - 1 - k = -1 := by omega
      rw [ei]
      have ht := hX.tr
      have hf := hX.f2
      have hW := hX.gw
      have hr := hX.rg
      have hqq := Hid.of (And.intro hR hq)
      clear hX hR hq ei hk hlt
      go_wp2_with (with_reducible show wpList _ _ _ ({ dst := _, op := Op.load 77 _, type := _, pos := _, after := _, guard := _ } :: _) _ _; refine Shut.out ?_)
      show wpList _ _ _ _ _ _
      refine wpList_load_mid rfl 77 _ rfl b7 0 rfl (rl (d15 R)) _ hr Tryd.underlying77 rfl (by rw [rl_length]; exact infoR) ?_
      simp only [Act.put, List.setIfInBounds_toArray, List.set_cons_zero, List.set_cons_succ]
      refine wpList_store_mid rfl 77 _ _ rfl b2 0 (rl (d15 R)).toArray rfl rfl (by rw [List.size_toArray, rl_length]; exact ht) (by rw [List.size_toArray, rl_length]; exact infoR) (all_oneCell_toArray (rl_one _)) ?_
      simp only [Act.put]
      apply wpList_nil
      repeat go_step
      refine bodyPost_ret (v := rn R) (result_cells Tryd.results95 _ _ b2 (rl (d15 R)) ?hp (World.rangeAt_setCells_same _ _ _ _ (by rw [rl_length]; exact ht)) Tryd.underlying77 rfl (by rw [rl_length]; exact infoR)) ?hd ?_
      case hp => rfl
      case hd => rfl
      exact ⟨⟨R, rfl, hqq.out.1, hqq.out.2⟩, grown_setCells hf _ _ hW⟩
end Go.Proofs.YtoimglbjepppmaaDoor

