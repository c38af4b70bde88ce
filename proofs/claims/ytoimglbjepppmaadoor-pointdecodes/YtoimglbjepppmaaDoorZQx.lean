import Derived.Test.YtoimglbjepppmaaDoorMq
namespace Go.Proofs.YtoimglbjepppmaaDoor
open Go.RowKit Go.Shelf FieldNum

structure GR (w : World) : Prop where
  rd : w.rangeAt 1 0 (bl dd)
theorem GR.grown {w w' : World} (h : GR w) (hg : Grown w w') : GR w' := ⟨rangeAt_grown h.rd hg⟩
theorem x_zero {x r : Nat} (h : x = r ∨ x = ng r) (h0 : r = 0) : x = 0 := by
  rcases h with h | h
  · rw [h, h0]
  · rw [h, h0]; exact ng_zero
theorem x_ne {x r : Nat} (h : x = r ∨ x = ng r) (hl : r < p) (h0 : ¬ r = 0) : ¬ x = 0 := by
  intro hx
  rcases h with h | h
  · exact h0 (by rw [← h, hx])
  · have := ng_ng r
    rw [← h, hx, ng_zero, Nat.mod_eq_of_lt hl] at this
    exact h0 this.symm
theorem f_even_keep {x r : Nat} (h : x = r ∨ x = ng r) (hl : r < p) (he : r % 2 = 0) (hx : ¬ x % 2 = 1) : x = r := by
  rcases h with h | h
  · exact h
  · by_cases h0 : r = 0
    · rw [h, h0]; exact ng_zero
    · have := ng_odd hl h0 he
      rw [h] at hx
      omega
theorem f_even_neg {x r : Nat} (h : x = r ∨ x = ng r) (hl : r < p) (he : r % 2 = 0) (hx : x % 2 = 1) : sb 0 x = r := by
  rcases h with h | h
  · rw [h] at hx; omega
  · rw [h]; show ng (ng r) = r; rw [ng_ng, Nat.mod_eq_of_lt hl]
theorem f_odd_keep {x r : Nat} (h : x = r ∨ x = ng r) (he : r % 2 = 0) (hx : x % 2 = 1) : x = ng r := by
  rcases h with h | h
  · rw [h] at hx; omega
  · exact h
theorem f_odd_neg {x r : Nat} (h : x = r ∨ x = ng r) (hl : r < p) (he : r % 2 = 0) (h0 : ¬ r = 0) (hx : ¬ x % 2 = 1) : sb 0 x = ng r := by
  rcases h with h | h
  · rw [h]; rfl
  · have := ng_odd hl h0 he
    rw [h] at hx
    omega

set_option maxRecDepth 100000 in
set_option maxHeartbeats 2000000 in
theorem RD_high0 (b : Nat) (_hb : b < M) (hs :  b < H) (hy : ¬ b % H < p) (w : World) (hGl0 : GR w) :
    Calls Tryd.prog 36 #[bv b] w fun e w' => e = .returned (.tuple #[pv 0 0, .int .i64 40]) ∧ Grown w w' := by
  have hW := Grown.refl w
  have hGl := hGl0
  go_enter Tryd.func36, Tryd.ntmps36
  repeat ((fail_if_success (with_reducible show Code.wp _ (Code.region _ _ _) _ _ _)); go_step)
  refine wp_plain [.box 23 (bl (b)), .new 39 64, .imm (.int .i64 (0))] (by kernel_rfl) (fun β => ?_) (fun β w1 hD => ?_)
  · refine Obs.cons (Ob.box rfl rfl (by kernel_rfl)) ?_
    refine Obs.cons (Ob.new _ rfl rfl zeroQ (by simp [pcs_length])) ?_
    refine Obs.cons (Ob.imm rfl (fun w => by kernel_rfl)) ?_
    exact Obs.nil
  obtain ⟨hf_b0, hr_b0⟩ := hD.bx 0 _ _ rfl
  have ht_b0 := there_boxB hr_b0 hf_b0 hD.gr
  replace hf_b0 := Nat.le_trans hW.2.2 hf_b0
  obtain ⟨hf_b1, ht_b1⟩ := hD.nw 1 _ _ rfl
  replace hf_b1 := Nat.le_trans hW.2.2 hf_b1
  have hn_b0_b1 := hD.ap 0 1 _ _ rfl rfl rfl rfl (by decide)
  replace hW := grown_trans hW hD.gr
  clear hD
  simp only [finAct, putAll, valsFrom, Plan.value, Act.put, List.setIfInBounds_toArray, List.set_cons_zero, List.set_cons_succ]
  replace hGl := hGl0.grown hW
  generalize β 0 = b0 at *
  generalize β (0 + 1) = b1 at *
  repeat ((fail_if_success (with_reducible show Code.wp _ (Code.region _ _ _) _ _ _)); go_step)
  refine wp_plain [.val (bv (b)), .val (.int .i64 (0)), .imm (.int .i64 (0))] (by kernel_rfl) (fun β => ?_) (fun β w2 hD => ?_)
  · refine Obs.cons (Ob.load (b0) 0 (bl (b)) rfl rfl (by kernel_rfl) hr_b0 Tryd.underlying23 rfl (by rw [bl_length]; exact info32)) ?_
    refine Obs.cons (Ob.call 66 #[bv (b), .int .i64 (255)] rfl (fun w => by kernel_rfl) (fun w hg => Bit_0 b hs w)) ?_
    refine Obs.cons (Ob.imm rfl (fun w => by kernel_rfl)) ?_
    exact Obs.nil
  replace hr_b0 := rangeAt_grown hr_b0 hD.gr
  replace ht_b0 := there_grown ht_b0 hD.gr
  replace ht_b1 := there_grown ht_b1 hD.gr
  replace hW := grown_trans hW hD.gr
  clear hD
  simp only [finAct, putAll, valsFrom, Plan.value, Act.put, List.setIfInBounds_toArray, List.set_cons_zero, List.set_cons_succ]
  replace hGl := hGl0.grown hW
  repeat ((fail_if_success (with_reducible show Code.wp _ (Code.region _ _ _) _ _ _)); go_step)
  refine wp_plain_fin [.imm (.pointer (some ⟨b0, 31, none⟩)), .val (.int .u8 (top (b) : Nat)), .imm (.int .u8 (top (b % H) : Nat)), .imm (.pointer (some ⟨b0, 31, none⟩)), .fin] (b0) 31 (fun _ => [.int .u8 (top (b % H) : Nat)]) (by kernel_rfl) (fun β => ?_) (fun β w3 hD => ?_)
  · refine Obs.cons (Ob.imm rfl (fun w => exec_idx 31 (by decide) rfl (by kernel_rfl) (by kernel_rfl))) ?_
    refine Obs.cons (Ob.load1 (b0) 31 rfl rfl (by kernel_rfl) (block_lt_of_cell (cell_top hr_b0)) (cell_top hr_b0) (fun w h => run_load8 w h)) ?_
    refine Obs.cons (Ob.imm rfl (fun w => exec_and8 (top (b)) (127) (top (b % H)) rfl (by kernel_rfl) (by kernel_rfl) (by rw [top_low]; exact and127 ⟨top b, top_lt b⟩))) ?_
    refine Obs.cons (Ob.imm rfl (fun w => exec_idx 31 (by decide) rfl (by kernel_rfl) (by kernel_rfl))) ?_
    refine Obs.cons (Ob.fin1 (.int .u8 (top (b % H) : Nat)) rfl rfl (there_31 ht_b0) rfl (by kernel_rfl) (by kernel_rfl) (fun w v0 h hf => run_store8 w v0 h hf)) ?_
    exact Obs.nil
  replace hr_b0 := rangeAt_grown hr_b0 hD.gr
  replace ht_b0 := there_grown ht_b0 hD.gr
  replace ht_b1 := there_grown ht_b1 hD.gr
  replace hW := grown_trans hW hD.gr
  clear hD
  simp only [finAct, putAll, valsFrom, Plan.value, Act.put, List.setIfInBounds_toArray, List.set_cons_zero, List.set_cons_succ]
  replace hGl := hGl0.grown hW
  have hs3 : (w3.setCells (b0) 31 [.int .u8 (top (b % H) : Nat)]).rangeAt (b0) 0 (bl (b % H)) := rangeAt_top hr_b0 (low_byte b)
  replace hW := grown_setCells hf_b0 [.int .u8 (top (b % H) : Nat)] 31 hW
  replace ht_b0 := World.there_setCells ht_b0 (b0) 31 [.int .u8 (top (b % H) : Nat)]
  replace ht_b1 := World.there_setCells ht_b1 (b0) 31 [.int .u8 (top (b % H) : Nat)]
  replace hGl := hGl0.grown hW
  generalize w3.setCells (b0) 31 [.int .u8 (top (b % H) : Nat)] = w3s at *
  repeat ((fail_if_success (with_reducible show Code.wp _ (Code.region _ _ _) _ _ _)); go_step)
  refine wp_plain [.val (bv (b % H)), .val (.bool false), .imm (.bool true)] (by kernel_rfl) (fun β => ?_) (fun β w4 hD => ?_)
  · refine Obs.cons (Ob.load (b0) 0 (bl (b % H)) rfl rfl (by kernel_rfl) hs3 Tryd.underlying23 rfl (by rw [bl_length]; exact info32)) ?_
    refine Obs.cons (Ob.call 67 #[bv (b % H)] rfl (fun w => by kernel_rfl) (fun w hg => canonR0 (b % H) (low_lt b) hy w)) ?_
    refine Obs.cons (Ob.imm rfl (fun w => by kernel_rfl)) ?_
    exact Obs.nil
  replace hs3 := rangeAt_grown hs3 hD.gr
  replace ht_b0 := there_grown ht_b0 hD.gr
  replace ht_b1 := there_grown ht_b1 hD.gr
  replace hW := grown_trans hW hD.gr
  clear hD
  simp only [finAct, putAll, valsFrom, Plan.value, Act.put, List.setIfInBounds_toArray, List.set_cons_zero, List.set_cons_succ]
  replace hGl := hGl0.grown hW
  repeat ((fail_if_success (with_reducible show Code.wp _ (Code.region _ _ _) _ _ _)); go_step)
  refine wp_plain_fin [.imm (pv (0) (0)), .fin, .imm (.int .i64 (40))] (b1) 0 (fun _ => pcs (0) (0)) (by kernel_rfl) (fun β => ?_) (fun β w5 hD => ?_)
  · refine Obs.cons (Ob.imm rfl (fun w => exec_build rfl (by kernel_rfl) (build_q0 w))) ?_
    refine Obs.cons (Ob.fin rfl (by rw [pcs_length]; exact ht_b1) rfl (by kernel_rfl) (by kernel_rfl) (by rw [pcs_length]; exact infoQ) (pcs_one _ _)) ?_
    refine Obs.cons (Ob.imm rfl (fun w => by kernel_rfl)) ?_
    exact Obs.nil
  replace hs3 := rangeAt_grown hs3 hD.gr
  replace ht_b0 := there_grown ht_b0 hD.gr
  replace ht_b1 := there_grown ht_b1 hD.gr
  replace hW := grown_trans hW hD.gr
  clear hD
  simp only [finAct, putAll, valsFrom, Plan.value, Act.put, List.setIfInBounds_toArray, List.set_cons_zero, List.set_cons_succ]
  replace hGl := hGl0.grown hW
  have hs5 := World.rangeAt_setCells_same w5 (b1) 0 (pcs (0) (0)) (by rw [pcs_length]; exact ht_b1)
  replace hW := grown_setCells hf_b1 (pcs (0) (0)) 0 hW
  generalize w5.setCells (b1) 0 (pcs (0) (0)) = w5s at *
  repeat go_step
  refine bodyPost_ret (v := .tuple #[pv (0) (0), .int .i64 (40)]) (result_cell_tmp Tryd.results36 _ _ (b1) _ (.int .i64 (40)) ?hp ?hv hs5 Tryd.underlying39 rfl (by rw [pcs_length]; exact infoQ)) ?hd ?_
  case hp => rfl
  case hv => rfl
  case hd => rfl
  exact ⟨rfl, hW⟩

set_option maxRecDepth 100000 in
set_option maxHeartbeats 2000000 in
theorem RD_none0 (b : Nat) (_hb : b < M) (hs :  b < H) (hy : b % H < p) (hr : ¬ rok (uu (b % H)) (vv (b % H))) (w : World) (hGl0 : GR w) :
    Calls Tryd.prog 36 #[bv b] w fun e w' => e = .returned (.tuple #[pv 0 0, .int .i64 41]) ∧ Grown w w' := by
  have hW := Grown.refl w
  have hGl := hGl0
  go_enter Tryd.func36, Tryd.ntmps36
  repeat ((fail_if_success (with_reducible show Code.wp _ (Code.region _ _ _) _ _ _)); go_step)
  refine wp_plain [.box 23 (bl (b)), .new 39 64, .imm (.int .i64 (0))] (by kernel_rfl) (fun β => ?_) (fun β w1 hD => ?_)
  · refine Obs.cons (Ob.box rfl rfl (by kernel_rfl)) ?_
    refine Obs.cons (Ob.new _ rfl rfl zeroQ (by simp [pcs_length])) ?_
    refine Obs.cons (Ob.imm rfl (fun w => by kernel_rfl)) ?_
    exact Obs.nil
  obtain ⟨hf_b0, hr_b0⟩ := hD.bx 0 _ _ rfl
  have ht_b0 := there_boxB hr_b0 hf_b0 hD.gr
  replace hf_b0 := Nat.le_trans hW.2.2 hf_b0
  obtain ⟨hf_b1, ht_b1⟩ := hD.nw 1 _ _ rfl
  replace hf_b1 := Nat.le_trans hW.2.2 hf_b1
  have hn_b0_b1 := hD.ap 0 1 _ _ rfl rfl rfl rfl (by decide)
  replace hW := grown_trans hW hD.gr
  clear hD
  simp only [finAct, putAll, valsFrom, Plan.value, Act.put, List.setIfInBounds_toArray, List.set_cons_zero, List.set_cons_succ]
  replace hGl := hGl0.grown hW
  generalize β 0 = b0 at *
  generalize β (0 + 1) = b1 at *
  repeat ((fail_if_success (with_reducible show Code.wp _ (Code.region _ _ _) _ _ _)); go_step)
  refine wp_plain [.val (bv (b)), .val (.int .i64 (0)), .imm (.int .i64 (0))] (by kernel_rfl) (fun β => ?_) (fun β w2 hD => ?_)
  · refine Obs.cons (Ob.load (b0) 0 (bl (b)) rfl rfl (by kernel_rfl) hr_b0 Tryd.underlying23 rfl (by rw [bl_length]; exact info32)) ?_
    refine Obs.cons (Ob.call 66 #[bv (b), .int .i64 (255)] rfl (fun w => by kernel_rfl) (fun w hg => Bit_0 b hs w)) ?_
    refine Obs.cons (Ob.imm rfl (fun w => by kernel_rfl)) ?_
    exact Obs.nil
  replace hr_b0 := rangeAt_grown hr_b0 hD.gr
  replace ht_b0 := there_grown ht_b0 hD.gr
  replace ht_b1 := there_grown ht_b1 hD.gr
  replace hW := grown_trans hW hD.gr
  clear hD
  simp only [finAct, putAll, valsFrom, Plan.value, Act.put, List.setIfInBounds_toArray, List.set_cons_zero, List.set_cons_succ]
  replace hGl := hGl0.grown hW
  repeat ((fail_if_success (with_reducible show Code.wp _ (Code.region _ _ _) _ _ _)); go_step)
  refine wp_plain_fin [.imm (.pointer (some ⟨b0, 31, none⟩)), .val (.int .u8 (top (b) : Nat)), .imm (.int .u8 (top (b % H) : Nat)), .imm (.pointer (some ⟨b0, 31, none⟩)), .fin] (b0) 31 (fun _ => [.int .u8 (top (b % H) : Nat)]) (by kernel_rfl) (fun β => ?_) (fun β w3 hD => ?_)
  · refine Obs.cons (Ob.imm rfl (fun w => exec_idx 31 (by decide) rfl (by kernel_rfl) (by kernel_rfl))) ?_
    refine Obs.cons (Ob.load1 (b0) 31 rfl rfl (by kernel_rfl) (block_lt_of_cell (cell_top hr_b0)) (cell_top hr_b0) (fun w h => run_load8 w h)) ?_
    refine Obs.cons (Ob.imm rfl (fun w => exec_and8 (top (b)) (127) (top (b % H)) rfl (by kernel_rfl) (by kernel_rfl) (by rw [top_low]; exact and127 ⟨top b, top_lt b⟩))) ?_
    refine Obs.cons (Ob.imm rfl (fun w => exec_idx 31 (by decide) rfl (by kernel_rfl) (by kernel_rfl))) ?_
    refine Obs.cons (Ob.fin1 (.int .u8 (top (b % H) : Nat)) rfl rfl (there_31 ht_b0) rfl (by kernel_rfl) (by kernel_rfl) (fun w v0 h hf => run_store8 w v0 h hf)) ?_
    exact Obs.nil
  replace hr_b0 := rangeAt_grown hr_b0 hD.gr
  replace ht_b0 := there_grown ht_b0 hD.gr
  replace ht_b1 := there_grown ht_b1 hD.gr
  replace hW := grown_trans hW hD.gr
  clear hD
  simp only [finAct, putAll, valsFrom, Plan.value, Act.put, List.setIfInBounds_toArray, List.set_cons_zero, List.set_cons_succ]
  replace hGl := hGl0.grown hW
  have hs3 : (w3.setCells (b0) 31 [.int .u8 (top (b % H) : Nat)]).rangeAt (b0) 0 (bl (b % H)) := rangeAt_top hr_b0 (low_byte b)
  replace hW := grown_setCells hf_b0 [.int .u8 (top (b % H) : Nat)] 31 hW
  replace ht_b0 := World.there_setCells ht_b0 (b0) 31 [.int .u8 (top (b % H) : Nat)]
  replace ht_b1 := World.there_setCells ht_b1 (b0) 31 [.int .u8 (top (b % H) : Nat)]
  replace hGl := hGl0.grown hW
  generalize w3.setCells (b0) 31 [.int .u8 (top (b % H) : Nat)] = w3s at *
  repeat ((fail_if_success (with_reducible show Code.wp _ (Code.region _ _ _) _ _ _)); go_step)
  refine wp_plain [.val (bv (b % H)), .val (.bool true), .imm (.bool false)] (by kernel_rfl) (fun β => ?_) (fun β w4 hD => ?_)
  · refine Obs.cons (Ob.load (b0) 0 (bl (b % H)) rfl rfl (by kernel_rfl) hs3 Tryd.underlying23 rfl (by rw [bl_length]; exact info32)) ?_
    refine Obs.cons (Ob.call 67 #[bv (b % H)] rfl (fun w => by kernel_rfl) (fun w hg => canonR1 (b % H) (low_lt b) hy w)) ?_
    refine Obs.cons (Ob.imm rfl (fun w => by kernel_rfl)) ?_
    exact Obs.nil
  replace hs3 := rangeAt_grown hs3 hD.gr
  replace ht_b0 := there_grown ht_b0 hD.gr
  replace ht_b1 := there_grown ht_b1 hD.gr
  replace hW := grown_trans hW hD.gr
  clear hD
  simp only [finAct, putAll, valsFrom, Plan.value, Act.put, List.setIfInBounds_toArray, List.set_cons_zero, List.set_cons_succ]
  replace hGl := hGl0.grown hW
  repeat ((fail_if_success (with_reducible show Code.wp _ (Code.region _ _ _) _ _ _)); go_step)
  refine wp_plain [.val (bv (b % H)), .val (rn (b % H)), .new 77 17, .put 2 2 (fun _ => rl (d15 (b % H)))] (by kernel_rfl) (fun β => ?_) (fun β w5 hD => ?_)
  · refine Obs.cons (Ob.load (b0) 0 (bl (b % H)) rfl rfl (by kernel_rfl) hs3 Tryd.underlying23 rfl (by rw [bl_length]; exact info32)) ?_
    refine Obs.cons (Ob.call 63 #[bv (b % H)] rfl (fun w => by kernel_rfl) (fun w hg => read_y b w)) ?_
    refine Obs.cons (Ob.new _ rfl rfl zeroR (by simp [rl_length])) ?_
    refine Obs.cons (Ob.put 77 rfl rfl rfl (by kernel_rfl) (by kernel_rfl) (by rw [rl_length]; exact infoR) (rl_one _)) ?_
    exact Obs.nil
  have hn_b0_b2 := ne_of_fresh hs3 (hD.nw 2 _ _ rfl).1
  replace hs3 := rangeAt_grown hs3 hD.gr
  replace ht_b0 := there_grown ht_b0 hD.gr
  replace ht_b1 := there_grown ht_b1 hD.gr
  obtain ⟨hf_b2, ht_b2⟩ := hD.nw 2 _ _ rfl
  have hr_b2 : w5.rangeAt (β 2) 0 (rl (d15 (b % H))) := hD.rg 3 2 2 (fun _ => rl (d15 (b % H))) rfl
  replace hf_b2 := Nat.le_trans hW.2.2 hf_b2
  replace hW := grown_trans hW hD.gr
  clear hD
  simp only [finAct, putAll, valsFrom, Plan.value, Act.put, List.setIfInBounds_toArray, List.set_cons_zero, List.set_cons_succ]
  replace hGl := hGl0.grown hW
  generalize β (0 + 1 + 1) = b2 at *
  repeat ((fail_if_success (with_reducible show Code.wp _ (Code.region _ _ _) _ _ _)); go_step)
  refine wp_plain [.val (rn (b % H)), .val (rn (b % H)), .any (fun z => rn (z)) [] (fun l z => z < H ∧ z % p = (b % H) * (b % H) % p), .new 77 17, .put 3 2 (fun z => rl (d15 (z)))] (by kernel_rfl) (fun β => ?_) (fun β w6 hD => ?_)
  · refine Obs.cons (Ob.load (b2) 0 (rl (d15 (b % H))) rfl rfl (by kernel_rfl) hr_b2 Tryd.underlying77 rfl (by rw [rl_length]; exact infoR)) ?_
    refine Obs.cons (Ob.load (b2) 0 (rl (d15 (b % H))) rfl rfl (by kernel_rfl) hr_b2 Tryd.underlying77 rfl (by rw [rl_length]; exact infoR)) ?_
    refine Obs.cons (Ob.any 68 #[rn (b % H), rn (b % H)] rfl (fun w => by kernel_rfl) (fun hk w hg => times_r (b % H) (b % H) (mod_HH _) (mod_HH _) w)) ?_
    refine Obs.cons (Ob.new _ rfl rfl zeroR (by simp [rl_length])) ?_
    refine Obs.cons (Ob.put 77 rfl rfl rfl (by kernel_rfl) (by kernel_rfl) (by rw [rl_length]; exact infoR) (rl_one _)) ?_
    exact Obs.nil
  have hn_b0_b3 := ne_of_fresh hs3 (hD.nw 3 _ _ rfl).1
  have hn_b2_b3 := ne_of_freshR hr_b2 (hD.nw 3 _ _ rfl).1
  replace hs3 := rangeAt_grown hs3 hD.gr
  replace hr_b2 := rangeAt_grown hr_b2 hD.gr
  replace ht_b0 := there_grown ht_b0 hD.gr
  replace ht_b1 := there_grown ht_b1 hD.gr
  replace ht_b2 := there_grown ht_b2 hD.gr
  obtain ⟨hf_b3, ht_b3⟩ := hD.nw 3 _ _ rfl
  have hr_b3 : w6.rangeAt (β 3) 0 (rl (d15 (β 2))) := hD.rg 4 3 2 (fun z => rl (d15 (z))) rfl
  replace hf_b3 := Nat.le_trans hW.2.2 hf_b3
  have hz6_2 : (β 2) < H ∧ (β 2) % p = (b % H) * (b % H) % p := hD.an 2 _ _ _ rfl
  replace hW := grown_trans hW hD.gr
  clear hD
  simp only [finAct, putAll, valsFrom, Plan.value, Act.put, List.setIfInBounds_toArray, List.set_cons_zero, List.set_cons_succ]
  replace hGl := hGl0.grown hW
  generalize β (0 + 1 + 1 + 1) = b3 at *
  generalize β (0 + 1 + 1) = z6_2 at *
  have hq6_2 := Hid.of hz6_2.2
  replace hz6_2 := hz6_2.1
  repeat ((fail_if_success (with_reducible show Code.wp _ (Code.region _ _ _) _ _ _)); go_step)
  replace hs3 := rangeAt_grown hs3 (gdrew w6)
  replace hr_b2 := rangeAt_grown hr_b2 (gdrew w6)
  replace hr_b3 := rangeAt_grown hr_b3 (gdrew w6)
  replace ht_b0 := there_grown ht_b0 (gdrew w6)
  replace ht_b1 := there_grown ht_b1 (gdrew w6)
  replace ht_b2 := there_grown ht_b2 (gdrew w6)
  replace ht_b3 := there_grown ht_b3 (gdrew w6)
  replace hW := grown_trans hW (gdrew w6)
  replace hGl := hGl0.grown hW
  refine wp_loose [.val (bv (dd)), .val (rn (dd)), .val (rn (z6_2)), .any (fun z => rn (z)) [] (fun l z => z < H ∧ z % p = (dd) * (z6_2) % p), .val (rn (1)), .any (fun z => rn (z)) [3] (fun l z => z < H ∧ z % p = ((l.getD 0 0) + (1)) % p), .new 77 17, .put 6 5 (fun z => rl (d15 (z)))] (by kernel_rfl) (by kernel_rfl) (fun β => ?_) (fun β w7 hD => ?_)
  · refine Obs.cons (Ob.load (1) 0 (bl (dd)) rfl rfl (by kernel_rfl) hGl.rd Tryd.underlying23 rfl (by rw [bl_length]; exact info32)) ?_
    refine Obs.cons (Ob.call 63 #[bv (dd)] rfl (fun w => by kernel_rfl) (fun w hg => read_d w)) ?_
    refine Obs.cons (Ob.load (b3) 0 (rl (d15 (z6_2))) rfl rfl (by kernel_rfl) hr_b3 Tryd.underlying77 rfl (by rw [rl_length]; exact infoR)) ?_
    refine Obs.cons (Ob.any 68 #[rn (dd), rn (z6_2)] rfl (fun w => by kernel_rfl) (fun hk w hg => times_r (dd) (z6_2) dd_H hz6_2 w)) ?_
    refine Obs.cons (Ob.call 60 #[.int .i64 (1)] rfl (fun w => by kernel_rfl) (fun w hg => small_v 1 (by decide) 1 rfl w)) ?_
    refine Obs.cons (Ob.any 69 #[rn (β 3), rn (1)] rfl (fun w => by kernel_rfl) (fun hk w hg => plus_r (β 3) (1) (hk 3 _ _ _ rfl (bindsTo_spec (by kernel_rfl))).1 (by decide) w)) ?_
    refine Obs.cons (Ob.new _ rfl rfl zeroR (by simp [rl_length])) ?_
    refine Obs.cons (Ob.put 77 rfl rfl rfl (by kernel_rfl) (by kernel_rfl) (by rw [rl_length]; exact infoR) (rl_one _)) ?_
    exact Obs.nil
  have hn_b0_b4 := ne_of_fresh hs3 (hD.nw 6 _ _ rfl).1
  have hn_b2_b4 := ne_of_freshR hr_b2 (hD.nw 6 _ _ rfl).1
  have hn_b3_b4 := ne_of_freshR hr_b3 (hD.nw 6 _ _ rfl).1
  replace hs3 := rangeAt_grown hs3 hD.gr
  replace hr_b2 := rangeAt_grown hr_b2 hD.gr
  replace hr_b3 := rangeAt_grown hr_b3 hD.gr
  replace ht_b0 := there_grown ht_b0 hD.gr
  replace ht_b1 := there_grown ht_b1 hD.gr
  replace ht_b2 := there_grown ht_b2 hD.gr
  replace ht_b3 := there_grown ht_b3 hD.gr
  obtain ⟨hf_b4, ht_b4⟩ := hD.nw 6 _ _ rfl
  have hr_b4 : w7.rangeAt (β 6) 0 (rl (d15 (β 5))) := hD.rg 7 6 5 (fun z => rl (d15 (z))) rfl
  replace hf_b4 := Nat.le_trans hW.2.2 hf_b4
  have hz7_3 : (β 3) < H ∧ (β 3) % p = (dd) * (z6_2) % p := hD.an 3 _ _ _ rfl
  have hz7_5 : (β 5) < H ∧ (β 5) % p = ((β 3) + (1)) % p := hD.an 5 _ _ _ rfl
  replace hW := grown_trans hW hD.gr
  clear hD
  simp only [finAct, putAll, valsFrom, Plan.value, Act.put, List.setIfInBounds_toArray, List.set_cons_zero, List.set_cons_succ]
  replace hGl := hGl0.grown hW
  generalize β (0 + 1 + 1 + 1 + 1 + 1 + 1) = b4 at *
  generalize β (0 + 1 + 1 + 1) = z7_3 at *
  generalize β (0 + 1 + 1 + 1 + 1 + 1) = z7_5 at *
  have hq7_3 := Hid.of hz7_3.2
  replace hz7_3 := hz7_3.1
  have hq7_5 := Hid.of hz7_5.2
  replace hz7_5 := hz7_5.1
  repeat ((fail_if_success (with_reducible show Code.wp _ (Code.region _ _ _) _ _ _)); go_step)
  replace hs3 := rangeAt_grown hs3 (gdrew w7)
  replace hr_b2 := rangeAt_grown hr_b2 (gdrew w7)
  replace hr_b3 := rangeAt_grown hr_b3 (gdrew w7)
  replace hr_b4 := rangeAt_grown hr_b4 (gdrew w7)
  replace ht_b0 := there_grown ht_b0 (gdrew w7)
  replace ht_b1 := there_grown ht_b1 (gdrew w7)
  replace ht_b2 := there_grown ht_b2 (gdrew w7)
  replace ht_b3 := there_grown ht_b3 (gdrew w7)
  replace ht_b4 := there_grown ht_b4 (gdrew w7)
  replace hW := grown_trans hW (gdrew w7)
  replace hGl := hGl0.grown hW
  refine wp_loose [.val (rn (z6_2)), .val (rn (1)), .any (fun z => rn (z)) [] (fun l z => z < H ∧ z % p = sb (z6_2) (1)), .val (rn (z7_5)), .any (fun z => rn (z)) [] (fun l z => z < H ∧ z % p = inv (z7_5)), .any (fun z => rn (z)) [2, 4] (fun l z => z < H ∧ z % p = uu (b % H) * inv (vv (b % H)) % p), .any (fun z => .tuple #[rn (z), .bool false]) [5] (fun l z => z < H ∧ True), .any (fun z => .tuple #[rn (z), .bool false]) [6] (fun l b => b = l.getD 0 0), .any (fun z => rn (z)) [7] (fun l b => b = l.getD 0 0), .imm (.bool false), .new 77 17, .put 10 8 (fun z => rl (d15 (z))), .imm (.bool false)] (by kernel_rfl) (by kernel_rfl) (fun β => ?_) (fun β w8 hD => ?_)
  · refine Obs.cons (Ob.load (b3) 0 (rl (d15 (z6_2))) rfl rfl (by kernel_rfl) hr_b3 Tryd.underlying77 rfl (by rw [rl_length]; exact infoR)) ?_
    refine Obs.cons (Ob.call 60 #[.int .i64 (1)] rfl (fun w => by kernel_rfl) (fun w hg => small_v 1 (by decide) 1 rfl w)) ?_
    refine Obs.cons (Ob.any 71 #[rn (z6_2), rn (1)] rfl (fun w => by kernel_rfl) (fun hk w hg => minus_r (z6_2) (1) hz6_2 (by decide) w)) ?_
    refine Obs.cons (Ob.load (b4) 0 (rl (d15 (z7_5))) rfl rfl (by kernel_rfl) hr_b4 Tryd.underlying77 rfl (by rw [rl_length]; exact infoR)) ?_
    refine Obs.cons (Ob.any 72 #[rn (z7_5)] rfl (fun w => by kernel_rfl) (fun hk w hg => inverse_r (z7_5) hz7_5 w)) ?_
    refine Obs.cons (Ob.any 68 #[rn (β 2), rn (β 4)] rfl (fun w => by kernel_rfl) (fun hk w hg => (times_r (β 2) (β 4) (hk 2 _ _ _ rfl (bindsTo_spec (by kernel_rfl))).1 (hk 4 _ _ _ rfl (bindsTo_spec (by kernel_rfl))).1 w).mono fun _ _ ⟨⟨z, h1, h2, h3⟩, h4⟩ => ⟨⟨z, h1, h2, arg_root hq6_2.out hq7_3.out hq7_5.out (hk 2 _ _ _ rfl (bindsTo_spec (by kernel_rfl))).2 (hk 4 _ _ _ rfl (bindsTo_spec (by kernel_rfl))).2 h3⟩, h4⟩)) ?_
    refine Obs.cons (Ob.any 70 #[rn (β 5)] rfl (fun w => by kernel_rfl) (fun hk w hg => (root_no (β 5) (hk 5 _ _ _ rfl (bindsTo_spec (by kernel_rfl))).1 (fun h => hr ((sqr_rok (vv_ne _) (hk 5 _ _ _ rfl (bindsTo_spec (by kernel_rfl))).2).1 h)) w).mono fun _ _ ⟨⟨z, h1, h2⟩, h4⟩ => ⟨⟨z, h1, h2, trivial⟩, h4⟩)) ?_
    refine Obs.cons (Ob.der (β 6) rfl (fun _ w => by kernel_rfl) (fun _ => rfl)) ?_
    refine Obs.cons (Ob.der (β 7) rfl (fun _ w => by kernel_rfl) (fun _ => rfl)) ?_
    refine Obs.cons (Ob.imm rfl (fun w => by kernel_rfl)) ?_
    refine Obs.cons (Ob.new _ rfl rfl zeroR (by simp [rl_length])) ?_
    refine Obs.cons (Ob.put 77 rfl rfl rfl (by kernel_rfl) (by kernel_rfl) (by rw [rl_length]; exact infoR) (rl_one _)) ?_
    refine Obs.cons (Ob.imm rfl (fun w => by kernel_rfl)) ?_
    exact Obs.nil
  have hn_b0_b5 := ne_of_fresh hs3 (hD.nw 10 _ _ rfl).1
  have hn_b2_b5 := ne_of_freshR hr_b2 (hD.nw 10 _ _ rfl).1
  have hn_b3_b5 := ne_of_freshR hr_b3 (hD.nw 10 _ _ rfl).1
  have hn_b4_b5 := ne_of_freshR hr_b4 (hD.nw 10 _ _ rfl).1
  replace hs3 := rangeAt_grown hs3 hD.gr
  replace hr_b2 := rangeAt_grown hr_b2 hD.gr
  replace hr_b3 := rangeAt_grown hr_b3 hD.gr
  replace hr_b4 := rangeAt_grown hr_b4 hD.gr
  replace ht_b0 := there_grown ht_b0 hD.gr
  replace ht_b1 := there_grown ht_b1 hD.gr
  replace ht_b2 := there_grown ht_b2 hD.gr
  replace ht_b3 := there_grown ht_b3 hD.gr
  replace ht_b4 := there_grown ht_b4 hD.gr
  obtain ⟨hf_b5, ht_b5⟩ := hD.nw 10 _ _ rfl
  have hr_b5 : w8.rangeAt (β 10) 0 (rl (d15 (β 8))) := hD.rg 11 10 8 (fun z => rl (d15 (z))) rfl
  replace hf_b5 := Nat.le_trans hW.2.2 hf_b5
  have hz8_2 : (β 2) < H ∧ (β 2) % p = sb (z6_2) (1) := hD.an 2 _ _ _ rfl
  have hz8_4 : (β 4) < H ∧ (β 4) % p = inv (z7_5) := hD.an 4 _ _ _ rfl
  have hz8_5 : (β 5) < H ∧ (β 5) % p = uu (b % H) * inv (vv (b % H)) % p := hD.an 5 _ _ _ rfl
  have hz8_6 : (β 6) < H ∧ True := hD.an 6 _ _ _ rfl
  have hz8_7 : β 6 = β 7 := (hD.an 7 _ _ _ rfl : β 7 = β 6).symm
  have hz8_8 : β 7 = β 8 := (hD.an 8 _ _ _ rfl : β 8 = β 7).symm
  replace hW := grown_trans hW hD.gr
  clear hD
  simp only [finAct, putAll, valsFrom, Plan.value, Act.put, List.setIfInBounds_toArray, List.set_cons_zero, List.set_cons_succ]
  replace hGl := hGl0.grown hW
  generalize β (0 + 1 + 1 + 1 + 1 + 1 + 1 + 1 + 1 + 1 + 1) = b5 at *
  generalize β (0 + 1 + 1) = z8_2 at *
  generalize β (0 + 1 + 1 + 1 + 1) = z8_4 at *
  generalize β (0 + 1 + 1 + 1 + 1 + 1) = z8_5 at *
  generalize β (0 + 1 + 1 + 1 + 1 + 1 + 1) = z8_6 at *
  generalize β (0 + 1 + 1 + 1 + 1 + 1 + 1 + 1) = z8_7 at *
  generalize β (0 + 1 + 1 + 1 + 1 + 1 + 1 + 1 + 1) = z8_8 at *
  subst hz8_7
  subst hz8_8
  have hq8_2 := Hid.of hz8_2.2
  replace hz8_2 := hz8_2.1
  have hq8_4 := Hid.of hz8_4.2
  replace hz8_4 := hz8_4.1
  have hq8_5 := Hid.of hz8_5.2
  replace hz8_5 := hz8_5.1
  have hq8_6 := Hid.of hz8_6.2
  replace hz8_6 := hz8_6.1
  repeat ((fail_if_success (with_reducible show Code.wp _ (Code.region _ _ _) _ _ _)); go_step)
  refine wp_plain [.imm (.bool false), .imm (.bool true)] (by kernel_rfl) (fun β => ?_) (fun β w9 hD => ?_)
  · refine Obs.cons (Ob.imm rfl (fun w => by kernel_rfl)) ?_
    refine Obs.cons (Ob.imm rfl (fun w => by kernel_rfl)) ?_
    exact Obs.nil
  replace hs3 := rangeAt_grown hs3 hD.gr
  replace hr_b2 := rangeAt_grown hr_b2 hD.gr
  replace hr_b3 := rangeAt_grown hr_b3 hD.gr
  replace hr_b4 := rangeAt_grown hr_b4 hD.gr
  replace hr_b5 := rangeAt_grown hr_b5 hD.gr
  replace ht_b0 := there_grown ht_b0 hD.gr
  replace ht_b1 := there_grown ht_b1 hD.gr
  replace ht_b2 := there_grown ht_b2 hD.gr
  replace ht_b3 := there_grown ht_b3 hD.gr
  replace ht_b4 := there_grown ht_b4 hD.gr
  replace ht_b5 := there_grown ht_b5 hD.gr
  replace hW := grown_trans hW hD.gr
  clear hD
  simp only [finAct, putAll, valsFrom, Plan.value, Act.put, List.setIfInBounds_toArray, List.set_cons_zero, List.set_cons_succ]
  replace hGl := hGl0.grown hW
  repeat ((fail_if_success (with_reducible show Code.wp _ (Code.region _ _ _) _ _ _)); go_step)
  refine wp_plain_fin [.imm (pv (0) (0)), .fin, .imm (.int .i64 (41))] (b1) 0 (fun _ => pcs (0) (0)) (by kernel_rfl) (fun β => ?_) (fun β w10 hD => ?_)
  · refine Obs.cons (Ob.imm rfl (fun w => exec_build rfl (by kernel_rfl) (build_q0 w))) ?_
    refine Obs.cons (Ob.fin rfl (by rw [pcs_length]; exact ht_b1) rfl (by kernel_rfl) (by kernel_rfl) (by rw [pcs_length]; exact infoQ) (pcs_one _ _)) ?_
    refine Obs.cons (Ob.imm rfl (fun w => by kernel_rfl)) ?_
    exact Obs.nil
  replace hs3 := rangeAt_grown hs3 hD.gr
  replace hr_b2 := rangeAt_grown hr_b2 hD.gr
  replace hr_b3 := rangeAt_grown hr_b3 hD.gr
  replace hr_b4 := rangeAt_grown hr_b4 hD.gr
  replace hr_b5 := rangeAt_grown hr_b5 hD.gr
  replace ht_b0 := there_grown ht_b0 hD.gr
  replace ht_b1 := there_grown ht_b1 hD.gr
  replace ht_b2 := there_grown ht_b2 hD.gr
  replace ht_b3 := there_grown ht_b3 hD.gr
  replace ht_b4 := there_grown ht_b4 hD.gr
  replace ht_b5 := there_grown ht_b5 hD.gr
  replace hW := grown_trans hW hD.gr
  clear hD
  simp only [finAct, putAll, valsFrom, Plan.value, Act.put, List.setIfInBounds_toArray, List.set_cons_zero, List.set_cons_succ]
  replace hGl := hGl0.grown hW
  have hs10 := World.rangeAt_setCells_same w10 (b1) 0 (pcs (0) (0)) (by rw [pcs_length]; exact ht_b1)
  replace hW := grown_setCells hf_b1 (pcs (0) (0)) 0 hW
  generalize w10.setCells (b1) 0 (pcs (0) (0)) = w10s at *
  repeat go_step
  refine bodyPost_ret (v := .tuple #[pv (0) (0), .int .i64 (41)]) (result_cell_tmp Tryd.results36 _ _ (b1) _ (.int .i64 (41)) ?hp ?hv hs10 Tryd.underlying39 rfl (by rw [pcs_length]; exact infoQ)) ?hd ?_
  case hp => rfl
  case hv => rfl
  case hd => rfl
  exact ⟨rfl, hW⟩

set_option maxRecDepth 100000 in
set_option maxHeartbeats 2000000 in
theorem RD_high1 (b : Nat) (hb : b < M) (hs : ¬ b < H) (hy : ¬ b % H < p) (w : World) (hGl0 : GR w) :
    Calls Tryd.prog 36 #[bv b] w fun e w' => e = .returned (.tuple #[pv 0 0, .int .i64 40]) ∧ Grown w w' := by
  have hW := Grown.refl w
  have hGl := hGl0
  go_enter Tryd.func36, Tryd.ntmps36
  repeat ((fail_if_success (with_reducible show Code.wp _ (Code.region _ _ _) _ _ _)); go_step)
  refine wp_plain [.box 23 (bl (b)), .new 39 64, .imm (.int .i64 (0))] (by kernel_rfl) (fun β => ?_) (fun β w1 hD => ?_)
  · refine Obs.cons (Ob.box rfl rfl (by kernel_rfl)) ?_
    refine Obs.cons (Ob.new _ rfl rfl zeroQ (by simp [pcs_length])) ?_
    refine Obs.cons (Ob.imm rfl (fun w => by kernel_rfl)) ?_
    exact Obs.nil
  obtain ⟨hf_b0, hr_b0⟩ := hD.bx 0 _ _ rfl
  have ht_b0 := there_boxB hr_b0 hf_b0 hD.gr
  replace hf_b0 := Nat.le_trans hW.2.2 hf_b0
  obtain ⟨hf_b1, ht_b1⟩ := hD.nw 1 _ _ rfl
  replace hf_b1 := Nat.le_trans hW.2.2 hf_b1
  have hn_b0_b1 := hD.ap 0 1 _ _ rfl rfl rfl rfl (by decide)
  replace hW := grown_trans hW hD.gr
  clear hD
  simp only [finAct, putAll, valsFrom, Plan.value, Act.put, List.setIfInBounds_toArray, List.set_cons_zero, List.set_cons_succ]
  replace hGl := hGl0.grown hW
  generalize β 0 = b0 at *
  generalize β (0 + 1) = b1 at *
  repeat ((fail_if_success (with_reducible show Code.wp _ (Code.region _ _ _) _ _ _)); go_step)
  refine wp_plain [.val (bv (b)), .val (.int .i64 (1)), .imm (.int .i64 (1))] (by kernel_rfl) (fun β => ?_) (fun β w2 hD => ?_)
  · refine Obs.cons (Ob.load (b0) 0 (bl (b)) rfl rfl (by kernel_rfl) hr_b0 Tryd.underlying23 rfl (by rw [bl_length]; exact info32)) ?_
    refine Obs.cons (Ob.call 66 #[bv (b), .int .i64 (255)] rfl (fun w => by kernel_rfl) (fun w hg => Bit_1 b hb hs w)) ?_
    refine Obs.cons (Ob.imm rfl (fun w => by kernel_rfl)) ?_
    exact Obs.nil
  replace hr_b0 := rangeAt_grown hr_b0 hD.gr
  replace ht_b0 := there_grown ht_b0 hD.gr
  replace ht_b1 := there_grown ht_b1 hD.gr
  replace hW := grown_trans hW hD.gr
  clear hD
  simp only [finAct, putAll, valsFrom, Plan.value, Act.put, List.setIfInBounds_toArray, List.set_cons_zero, List.set_cons_succ]
  replace hGl := hGl0.grown hW
  repeat ((fail_if_success (with_reducible show Code.wp _ (Code.region _ _ _) _ _ _)); go_step)
  refine wp_plain_fin [.imm (.pointer (some ⟨b0, 31, none⟩)), .val (.int .u8 (top (b) : Nat)), .imm (.int .u8 (top (b % H) : Nat)), .imm (.pointer (some ⟨b0, 31, none⟩)), .fin] (b0) 31 (fun _ => [.int .u8 (top (b % H) : Nat)]) (by kernel_rfl) (fun β => ?_) (fun β w3 hD => ?_)
  · refine Obs.cons (Ob.imm rfl (fun w => exec_idx 31 (by decide) rfl (by kernel_rfl) (by kernel_rfl))) ?_
    refine Obs.cons (Ob.load1 (b0) 31 rfl rfl (by kernel_rfl) (block_lt_of_cell (cell_top hr_b0)) (cell_top hr_b0) (fun w h => run_load8 w h)) ?_
    refine Obs.cons (Ob.imm rfl (fun w => exec_and8 (top (b)) (127) (top (b % H)) rfl (by kernel_rfl) (by kernel_rfl) (by rw [top_low]; exact and127 ⟨top b, top_lt b⟩))) ?_
    refine Obs.cons (Ob.imm rfl (fun w => exec_idx 31 (by decide) rfl (by kernel_rfl) (by kernel_rfl))) ?_
    refine Obs.cons (Ob.fin1 (.int .u8 (top (b % H) : Nat)) rfl rfl (there_31 ht_b0) rfl (by kernel_rfl) (by kernel_rfl) (fun w v0 h hf => run_store8 w v0 h hf)) ?_
    exact Obs.nil
  replace hr_b0 := rangeAt_grown hr_b0 hD.gr
  replace ht_b0 := there_grown ht_b0 hD.gr
  replace ht_b1 := there_grown ht_b1 hD.gr
  replace hW := grown_trans hW hD.gr
  clear hD
  simp only [finAct, putAll, valsFrom, Plan.value, Act.put, List.setIfInBounds_toArray, List.set_cons_zero, List.set_cons_succ]
  replace hGl := hGl0.grown hW
  have hs3 : (w3.setCells (b0) 31 [.int .u8 (top (b % H) : Nat)]).rangeAt (b0) 0 (bl (b % H)) := rangeAt_top hr_b0 (low_byte b)
  replace hW := grown_setCells hf_b0 [.int .u8 (top (b % H) : Nat)] 31 hW
  replace ht_b0 := World.there_setCells ht_b0 (b0) 31 [.int .u8 (top (b % H) : Nat)]
  replace ht_b1 := World.there_setCells ht_b1 (b0) 31 [.int .u8 (top (b % H) : Nat)]
  replace hGl := hGl0.grown hW
  generalize w3.setCells (b0) 31 [.int .u8 (top (b % H) : Nat)] = w3s at *
  repeat ((fail_if_success (with_reducible show Code.wp _ (Code.region _ _ _) _ _ _)); go_step)
  refine wp_plain [.val (bv (b % H)), .val (.bool false), .imm (.bool true)] (by kernel_rfl) (fun β => ?_) (fun β w4 hD => ?_)
  · refine Obs.cons (Ob.load (b0) 0 (bl (b % H)) rfl rfl (by kernel_rfl) hs3 Tryd.underlying23 rfl (by rw [bl_length]; exact info32)) ?_
    refine Obs.cons (Ob.call 67 #[bv (b % H)] rfl (fun w => by kernel_rfl) (fun w hg => canonR0 (b % H) (low_lt b) hy w)) ?_
    refine Obs.cons (Ob.imm rfl (fun w => by kernel_rfl)) ?_
    exact Obs.nil
  replace hs3 := rangeAt_grown hs3 hD.gr
  replace ht_b0 := there_grown ht_b0 hD.gr
  replace ht_b1 := there_grown ht_b1 hD.gr
  replace hW := grown_trans hW hD.gr
  clear hD
  simp only [finAct, putAll, valsFrom, Plan.value, Act.put, List.setIfInBounds_toArray, List.set_cons_zero, List.set_cons_succ]
  replace hGl := hGl0.grown hW
  repeat ((fail_if_success (with_reducible show Code.wp _ (Code.region _ _ _) _ _ _)); go_step)
  refine wp_plain_fin [.imm (pv (0) (0)), .fin, .imm (.int .i64 (40))] (b1) 0 (fun _ => pcs (0) (0)) (by kernel_rfl) (fun β => ?_) (fun β w5 hD => ?_)
  · refine Obs.cons (Ob.imm rfl (fun w => exec_build rfl (by kernel_rfl) (build_q0 w))) ?_
    refine Obs.cons (Ob.fin rfl (by rw [pcs_length]; exact ht_b1) rfl (by kernel_rfl) (by kernel_rfl) (by rw [pcs_length]; exact infoQ) (pcs_one _ _)) ?_
    refine Obs.cons (Ob.imm rfl (fun w => by kernel_rfl)) ?_
    exact Obs.nil
  replace hs3 := rangeAt_grown hs3 hD.gr
  replace ht_b0 := there_grown ht_b0 hD.gr
  replace ht_b1 := there_grown ht_b1 hD.gr
  replace hW := grown_trans hW hD.gr
  clear hD
  simp only [finAct, putAll, valsFrom, Plan.value, Act.put, List.setIfInBounds_toArray, List.set_cons_zero, List.set_cons_succ]
  replace hGl := hGl0.grown hW
  have hs5 := World.rangeAt_setCells_same w5 (b1) 0 (pcs (0) (0)) (by rw [pcs_length]; exact ht_b1)
  replace hW := grown_setCells hf_b1 (pcs (0) (0)) 0 hW
  generalize w5.setCells (b1) 0 (pcs (0) (0)) = w5s at *
  repeat go_step
  refine bodyPost_ret (v := .tuple #[pv (0) (0), .int .i64 (40)]) (result_cell_tmp Tryd.results36 _ _ (b1) _ (.int .i64 (40)) ?hp ?hv hs5 Tryd.underlying39 rfl (by rw [pcs_length]; exact infoQ)) ?hd ?_
  case hp => rfl
  case hv => rfl
  case hd => rfl
  exact ⟨rfl, hW⟩

set_option maxRecDepth 100000 in
set_option maxHeartbeats 2000000 in
theorem RD_none1 (b : Nat) (hb : b < M) (hs : ¬ b < H) (hy : b % H < p) (hr : ¬ rok (uu (b % H)) (vv (b % H))) (w : World) (hGl0 : GR w) :
    Calls Tryd.prog 36 #[bv b] w fun e w' => e = .returned (.tuple #[pv 0 0, .int .i64 41]) ∧ Grown w w' := by
  have hW := Grown.refl w
  have hGl := hGl0
  go_enter Tryd.func36, Tryd.ntmps36
  repeat ((fail_if_success (with_reducible show Code.wp _ (Code.region _ _ _) _ _ _)); go_step)
  refine wp_plain [.box 23 (bl (b)), .new 39 64, .imm (.int .i64 (0))] (by kernel_rfl) (fun β => ?_) (fun β w1 hD => ?_)
  · refine Obs.cons (Ob.box rfl rfl (by kernel_rfl)) ?_
    refine Obs.cons (Ob.new _ rfl rfl zeroQ (by simp [pcs_length])) ?_
    refine Obs.cons (Ob.imm rfl (fun w => by kernel_rfl)) ?_
    exact Obs.nil
  obtain ⟨hf_b0, hr_b0⟩ := hD.bx 0 _ _ rfl
  have ht_b0 := there_boxB hr_b0 hf_b0 hD.gr
  replace hf_b0 := Nat.le_trans hW.2.2 hf_b0
  obtain ⟨hf_b1, ht_b1⟩ := hD.nw 1 _ _ rfl
  replace hf_b1 := Nat.le_trans hW.2.2 hf_b1
  have hn_b0_b1 := hD.ap 0 1 _ _ rfl rfl rfl rfl (by decide)
  replace hW := grown_trans hW hD.gr
  clear hD
  simp only [finAct, putAll, valsFrom, Plan.value, Act.put, List.setIfInBounds_toArray, List.set_cons_zero, List.set_cons_succ]
  replace hGl := hGl0.grown hW
  generalize β 0 = b0 at *
  generalize β (0 + 1) = b1 at *
  repeat ((fail_if_success (with_reducible show Code.wp _ (Code.region _ _ _) _ _ _)); go_step)
  refine wp_plain [.val (bv (b)), .val (.int .i64 (1)), .imm (.int .i64 (1))] (by kernel_rfl) (fun β => ?_) (fun β w2 hD => ?_)
  · refine Obs.cons (Ob.load (b0) 0 (bl (b)) rfl rfl (by kernel_rfl) hr_b0 Tryd.underlying23 rfl (by rw [bl_length]; exact info32)) ?_
    refine Obs.cons (Ob.call 66 #[bv (b), .int .i64 (255)] rfl (fun w => by kernel_rfl) (fun w hg => Bit_1 b hb hs w)) ?_
    refine Obs.cons (Ob.imm rfl (fun w => by kernel_rfl)) ?_
    exact Obs.nil
  replace hr_b0 := rangeAt_grown hr_b0 hD.gr
  replace ht_b0 := there_grown ht_b0 hD.gr
  replace ht_b1 := there_grown ht_b1 hD.gr
  replace hW := grown_trans hW hD.gr
  clear hD
  simp only [finAct, putAll, valsFrom, Plan.value, Act.put, List.setIfInBounds_toArray, List.set_cons_zero, List.set_cons_succ]
  replace hGl := hGl0.grown hW
  repeat ((fail_if_success (with_reducible show Code.wp _ (Code.region _ _ _) _ _ _)); go_step)
  refine wp_plain_fin [.imm (.pointer (some ⟨b0, 31, none⟩)), .val (.int .u8 (top (b) : Nat)), .imm (.int .u8 (top (b % H) : Nat)), .imm (.pointer (some ⟨b0, 31, none⟩)), .fin] (b0) 31 (fun _ => [.int .u8 (top (b % H) : Nat)]) (by kernel_rfl) (fun β => ?_) (fun β w3 hD => ?_)
  · refine Obs.cons (Ob.imm rfl (fun w => exec_idx 31 (by decide) rfl (by kernel_rfl) (by kernel_rfl))) ?_
    refine Obs.cons (Ob.load1 (b0) 31 rfl rfl (by kernel_rfl) (block_lt_of_cell (cell_top hr_b0)) (cell_top hr_b0) (fun w h => run_load8 w h)) ?_
    refine Obs.cons (Ob.imm rfl (fun w => exec_and8 (top (b)) (127) (top (b % H)) rfl (by kernel_rfl) (by kernel_rfl) (by rw [top_low]; exact and127 ⟨top b, top_lt b⟩))) ?_
    refine Obs.cons (Ob.imm rfl (fun w => exec_idx 31 (by decide) rfl (by kernel_rfl) (by kernel_rfl))) ?_
    refine Obs.cons (Ob.fin1 (.int .u8 (top (b % H) : Nat)) rfl rfl (there_31 ht_b0) rfl (by kernel_rfl) (by kernel_rfl) (fun w v0 h hf => run_store8 w v0 h hf)) ?_
    exact Obs.nil
  replace hr_b0 := rangeAt_grown hr_b0 hD.gr
  replace ht_b0 := there_grown ht_b0 hD.gr
  replace ht_b1 := there_grown ht_b1 hD.gr
  replace hW := grown_trans hW hD.gr
  clear hD
  simp only [finAct, putAll, valsFrom, Plan.value, Act.put, List.setIfInBounds_toArray, List.set_cons_zero, List.set_cons_succ]
  replace hGl := hGl0.grown hW
  have hs3 : (w3.setCells (b0) 31 [.int .u8 (top (b % H) : Nat)]).rangeAt (b0) 0 (bl (b % H)) := rangeAt_top hr_b0 (low_byte b)
  replace hW := grown_setCells hf_b0 [.int .u8 (top (b % H) : Nat)] 31 hW
  replace ht_b0 := World.there_setCells ht_b0 (b0) 31 [.int .u8 (top (b % H) : Nat)]
  replace ht_b1 := World.there_setCells ht_b1 (b0) 31 [.int .u8 (top (b % H) : Nat)]
  replace hGl := hGl0.grown hW
  generalize w3.setCells (b0) 31 [.int .u8 (top (b % H) : Nat)] = w3s at *
  repeat ((fail_if_success (with_reducible show Code.wp _ (Code.region _ _ _) _ _ _)); go_step)
  refine wp_plain [.val (bv (b % H)), .val (.bool true), .imm (.bool false)] (by kernel_rfl) (fun β => ?_) (fun β w4 hD => ?_)
  · refine Obs.cons (Ob.load (b0) 0 (bl (b % H)) rfl rfl (by kernel_rfl) hs3 Tryd.underlying23 rfl (by rw [bl_length]; exact info32)) ?_
    refine Obs.cons (Ob.call 67 #[bv (b % H)] rfl (fun w => by kernel_rfl) (fun w hg => canonR1 (b % H) (low_lt b) hy w)) ?_
    refine Obs.cons (Ob.imm rfl (fun w => by kernel_rfl)) ?_
    exact Obs.nil
  replace hs3 := rangeAt_grown hs3 hD.gr
  replace ht_b0 := there_grown ht_b0 hD.gr
  replace ht_b1 := there_grown ht_b1 hD.gr
  replace hW := grown_trans hW hD.gr
  clear hD
  simp only [finAct, putAll, valsFrom, Plan.value, Act.put, List.setIfInBounds_toArray, List.set_cons_zero, List.set_cons_succ]
  replace hGl := hGl0.grown hW
  repeat ((fail_if_success (with_reducible show Code.wp _ (Code.region _ _ _) _ _ _)); go_step)
  refine wp_plain [.val (bv (b % H)), .val (rn (b % H)), .new 77 17, .put 2 2 (fun _ => rl (d15 (b % H)))] (by kernel_rfl) (fun β => ?_) (fun β w5 hD => ?_)
  · refine Obs.cons (Ob.load (b0) 0 (bl (b % H)) rfl rfl (by kernel_rfl) hs3 Tryd.underlying23 rfl (by rw [bl_length]; exact info32)) ?_
    refine Obs.cons (Ob.call 63 #[bv (b % H)] rfl (fun w => by kernel_rfl) (fun w hg => read_y b w)) ?_
    refine Obs.cons (Ob.new _ rfl rfl zeroR (by simp [rl_length])) ?_
    refine Obs.cons (Ob.put 77 rfl rfl rfl (by kernel_rfl) (by kernel_rfl) (by rw [rl_length]; exact infoR) (rl_one _)) ?_
    exact Obs.nil
  have hn_b0_b2 := ne_of_fresh hs3 (hD.nw 2 _ _ rfl).1
  replace hs3 := rangeAt_grown hs3 hD.gr
  replace ht_b0 := there_grown ht_b0 hD.gr
  replace ht_b1 := there_grown ht_b1 hD.gr
  obtain ⟨hf_b2, ht_b2⟩ := hD.nw 2 _ _ rfl
  have hr_b2 : w5.rangeAt (β 2) 0 (rl (d15 (b % H))) := hD.rg 3 2 2 (fun _ => rl (d15 (b % H))) rfl
  replace hf_b2 := Nat.le_trans hW.2.2 hf_b2
  replace hW := grown_trans hW hD.gr
  clear hD
  simp only [finAct, putAll, valsFrom, Plan.value, Act.put, List.setIfInBounds_toArray, List.set_cons_zero, List.set_cons_succ]
  replace hGl := hGl0.grown hW
  generalize β (0 + 1 + 1) = b2 at *
  repeat ((fail_if_success (with_reducible show Code.wp _ (Code.region _ _ _) _ _ _)); go_step)
  refine wp_plain [.val (rn (b % H)), .val (rn (b % H)), .any (fun z => rn (z)) [] (fun l z => z < H ∧ z % p = (b % H) * (b % H) % p), .new 77 17, .put 3 2 (fun z => rl (d15 (z)))] (by kernel_rfl) (fun β => ?_) (fun β w6 hD => ?_)
  · refine Obs.cons (Ob.load (b2) 0 (rl (d15 (b % H))) rfl rfl (by kernel_rfl) hr_b2 Tryd.underlying77 rfl (by rw [rl_length]; exact infoR)) ?_
    refine Obs.cons (Ob.load (b2) 0 (rl (d15 (b % H))) rfl rfl (by kernel_rfl) hr_b2 Tryd.underlying77 rfl (by rw [rl_length]; exact infoR)) ?_
    refine Obs.cons (Ob.any 68 #[rn (b % H), rn (b % H)] rfl (fun w => by kernel_rfl) (fun hk w hg => times_r (b % H) (b % H) (mod_HH _) (mod_HH _) w)) ?_
    refine Obs.cons (Ob.new _ rfl rfl zeroR (by simp [rl_length])) ?_
    refine Obs.cons (Ob.put 77 rfl rfl rfl (by kernel_rfl) (by kernel_rfl) (by rw [rl_length]; exact infoR) (rl_one _)) ?_
    exact Obs.nil
  have hn_b0_b3 := ne_of_fresh hs3 (hD.nw 3 _ _ rfl).1
  have hn_b2_b3 := ne_of_freshR hr_b2 (hD.nw 3 _ _ rfl).1
  replace hs3 := rangeAt_grown hs3 hD.gr
  replace hr_b2 := rangeAt_grown hr_b2 hD.gr
  replace ht_b0 := there_grown ht_b0 hD.gr
  replace ht_b1 := there_grown ht_b1 hD.gr
  replace ht_b2 := there_grown ht_b2 hD.gr
  obtain ⟨hf_b3, ht_b3⟩ := hD.nw 3 _ _ rfl
  have hr_b3 : w6.rangeAt (β 3) 0 (rl (d15 (β 2))) := hD.rg 4 3 2 (fun z => rl (d15 (z))) rfl
  replace hf_b3 := Nat.le_trans hW.2.2 hf_b3
  have hz6_2 : (β 2) < H ∧ (β 2) % p = (b % H) * (b % H) % p := hD.an 2 _ _ _ rfl
  replace hW := grown_trans hW hD.gr
  clear hD
  simp only [finAct, putAll, valsFrom, Plan.value, Act.put, List.setIfInBounds_toArray, List.set_cons_zero, List.set_cons_succ]
  replace hGl := hGl0.grown hW
  generalize β (0 + 1 + 1 + 1) = b3 at *
  generalize β (0 + 1 + 1) = z6_2 at *
  have hq6_2 := Hid.of hz6_2.2
  replace hz6_2 := hz6_2.1
  repeat ((fail_if_success (with_reducible show Code.wp _ (Code.region _ _ _) _ _ _)); go_step)
  replace hs3 := rangeAt_grown hs3 (gdrew w6)
  replace hr_b2 := rangeAt_grown hr_b2 (gdrew w6)
  replace hr_b3 := rangeAt_grown hr_b3 (gdrew w6)
  replace ht_b0 := there_grown ht_b0 (gdrew w6)
  replace ht_b1 := there_grown ht_b1 (gdrew w6)
  replace ht_b2 := there_grown ht_b2 (gdrew w6)
  replace ht_b3 := there_grown ht_b3 (gdrew w6)
  replace hW := grown_trans hW (gdrew w6)
  replace hGl := hGl0.grown hW
  refine wp_loose [.val (bv (dd)), .val (rn (dd)), .val (rn (z6_2)), .any (fun z => rn (z)) [] (fun l z => z < H ∧ z % p = (dd) * (z6_2) % p), .val (rn (1)), .any (fun z => rn (z)) [3] (fun l z => z < H ∧ z % p = ((l.getD 0 0) + (1)) % p), .new 77 17, .put 6 5 (fun z => rl (d15 (z)))] (by kernel_rfl) (by kernel_rfl) (fun β => ?_) (fun β w7 hD => ?_)
  · refine Obs.cons (Ob.load (1) 0 (bl (dd)) rfl rfl (by kernel_rfl) hGl.rd Tryd.underlying23 rfl (by rw [bl_length]; exact info32)) ?_
    refine Obs.cons (Ob.call 63 #[bv (dd)] rfl (fun w => by kernel_rfl) (fun w hg => read_d w)) ?_
    refine Obs.cons (Ob.load (b3) 0 (rl (d15 (z6_2))) rfl rfl (by kernel_rfl) hr_b3 Tryd.underlying77 rfl (by rw [rl_length]; exact infoR)) ?_
    refine Obs.cons (Ob.any 68 #[rn (dd), rn (z6_2)] rfl (fun w => by kernel_rfl) (fun hk w hg => times_r (dd) (z6_2) dd_H hz6_2 w)) ?_
    refine Obs.cons (Ob.call 60 #[.int .i64 (1)] rfl (fun w => by kernel_rfl) (fun w hg => small_v 1 (by decide) 1 rfl w)) ?_
    refine Obs.cons (Ob.any 69 #[rn (β 3), rn (1)] rfl (fun w => by kernel_rfl) (fun hk w hg => plus_r (β 3) (1) (hk 3 _ _ _ rfl (bindsTo_spec (by kernel_rfl))).1 (by decide) w)) ?_
    refine Obs.cons (Ob.new _ rfl rfl zeroR (by simp [rl_length])) ?_
    refine Obs.cons (Ob.put 77 rfl rfl rfl (by kernel_rfl) (by kernel_rfl) (by rw [rl_length]; exact infoR) (rl_one _)) ?_
    exact Obs.nil
  have hn_b0_b4 := ne_of_fresh hs3 (hD.nw 6 _ _ rfl).1
  have hn_b2_b4 := ne_of_freshR hr_b2 (hD.nw 6 _ _ rfl).1
  have hn_b3_b4 := ne_of_freshR hr_b3 (hD.nw 6 _ _ rfl).1
  replace hs3 := rangeAt_grown hs3 hD.gr
  replace hr_b2 := rangeAt_grown hr_b2 hD.gr
  replace hr_b3 := rangeAt_grown hr_b3 hD.gr
  replace ht_b0 := there_grown ht_b0 hD.gr
  replace ht_b1 := there_grown ht_b1 hD.gr
  replace ht_b2 := there_grown ht_b2 hD.gr
  replace ht_b3 := there_grown ht_b3 hD.gr
  obtain ⟨hf_b4, ht_b4⟩ := hD.nw 6 _ _ rfl
  have hr_b4 : w7.rangeAt (β 6) 0 (rl (d15 (β 5))) := hD.rg 7 6 5 (fun z => rl (d15 (z))) rfl
  replace hf_b4 := Nat.le_trans hW.2.2 hf_b4
  have hz7_3 : (β 3) < H ∧ (β 3) % p = (dd) * (z6_2) % p := hD.an 3 _ _ _ rfl
  have hz7_5 : (β 5) < H ∧ (β 5) % p = ((β 3) + (1)) % p := hD.an 5 _ _ _ rfl
  replace hW := grown_trans hW hD.gr
  clear hD
  simp only [finAct, putAll, valsFrom, Plan.value, Act.put, List.setIfInBounds_toArray, List.set_cons_zero, List.set_cons_succ]
  replace hGl := hGl0.grown hW
  generalize β (0 + 1 + 1 + 1 + 1 + 1 + 1) = b4 at *
  generalize β (0 + 1 + 1 + 1) = z7_3 at *
  generalize β (0 + 1 + 1 + 1 + 1 + 1) = z7_5 at *
  have hq7_3 := Hid.of hz7_3.2
  replace hz7_3 := hz7_3.1
  have hq7_5 := Hid.of hz7_5.2
  replace hz7_5 := hz7_5.1
  repeat ((fail_if_success (with_reducible show Code.wp _ (Code.region _ _ _) _ _ _)); go_step)
  replace hs3 := rangeAt_grown hs3 (gdrew w7)
  replace hr_b2 := rangeAt_grown hr_b2 (gdrew w7)
  replace hr_b3 := rangeAt_grown hr_b3 (gdrew w7)
  replace hr_b4 := rangeAt_grown hr_b4 (gdrew w7)
  replace ht_b0 := there_grown ht_b0 (gdrew w7)
  replace ht_b1 := there_grown ht_b1 (gdrew w7)
  replace ht_b2 := there_grown ht_b2 (gdrew w7)
  replace ht_b3 := there_grown ht_b3 (gdrew w7)
  replace ht_b4 := there_grown ht_b4 (gdrew w7)
  replace hW := grown_trans hW (gdrew w7)
  replace hGl := hGl0.grown hW
  refine wp_loose [.val (rn (z6_2)), .val (rn (1)), .any (fun z => rn (z)) [] (fun l z => z < H ∧ z % p = sb (z6_2) (1)), .val (rn (z7_5)), .any (fun z => rn (z)) [] (fun l z => z < H ∧ z % p = inv (z7_5)), .any (fun z => rn (z)) [2, 4] (fun l z => z < H ∧ z % p = uu (b % H) * inv (vv (b % H)) % p), .any (fun z => .tuple #[rn (z), .bool false]) [5] (fun l z => z < H ∧ True), .any (fun z => .tuple #[rn (z), .bool false]) [6] (fun l b => b = l.getD 0 0), .any (fun z => rn (z)) [7] (fun l b => b = l.getD 0 0), .imm (.bool false), .new 77 17, .put 10 8 (fun z => rl (d15 (z))), .imm (.bool false)] (by kernel_rfl) (by kernel_rfl) (fun β => ?_) (fun β w8 hD => ?_)
  · refine Obs.cons (Ob.load (b3) 0 (rl (d15 (z6_2))) rfl rfl (by kernel_rfl) hr_b3 Tryd.underlying77 rfl (by rw [rl_length]; exact infoR)) ?_
    refine Obs.cons (Ob.call 60 #[.int .i64 (1)] rfl (fun w => by kernel_rfl) (fun w hg => small_v 1 (by decide) 1 rfl w)) ?_
    refine Obs.cons (Ob.any 71 #[rn (z6_2), rn (1)] rfl (fun w => by kernel_rfl) (fun hk w hg => minus_r (z6_2) (1) hz6_2 (by decide) w)) ?_
    refine Obs.cons (Ob.load (b4) 0 (rl (d15 (z7_5))) rfl rfl (by kernel_rfl) hr_b4 Tryd.underlying77 rfl (by rw [rl_length]; exact infoR)) ?_
    refine Obs.cons (Ob.any 72 #[rn (z7_5)] rfl (fun w => by kernel_rfl) (fun hk w hg => inverse_r (z7_5) hz7_5 w)) ?_
    refine Obs.cons (Ob.any 68 #[rn (β 2), rn (β 4)] rfl (fun w => by kernel_rfl) (fun hk w hg => (times_r (β 2) (β 4) (hk 2 _ _ _ rfl (bindsTo_spec (by kernel_rfl))).1 (hk 4 _ _ _ rfl (bindsTo_spec (by kernel_rfl))).1 w).mono fun _ _ ⟨⟨z, h1, h2, h3⟩, h4⟩ => ⟨⟨z, h1, h2, arg_root hq6_2.out hq7_3.out hq7_5.out (hk 2 _ _ _ rfl (bindsTo_spec (by kernel_rfl))).2 (hk 4 _ _ _ rfl (bindsTo_spec (by kernel_rfl))).2 h3⟩, h4⟩)) ?_
    refine Obs.cons (Ob.any 70 #[rn (β 5)] rfl (fun w => by kernel_rfl) (fun hk w hg => (root_no (β 5) (hk 5 _ _ _ rfl (bindsTo_spec (by kernel_rfl))).1 (fun h => hr ((sqr_rok (vv_ne _) (hk 5 _ _ _ rfl (bindsTo_spec (by kernel_rfl))).2).1 h)) w).mono fun _ _ ⟨⟨z, h1, h2⟩, h4⟩ => ⟨⟨z, h1, h2, trivial⟩, h4⟩)) ?_
    refine Obs.cons (Ob.der (β 6) rfl (fun _ w => by kernel_rfl) (fun _ => rfl)) ?_
    refine Obs.cons (Ob.der (β 7) rfl (fun _ w => by kernel_rfl) (fun _ => rfl)) ?_
    refine Obs.cons (Ob.imm rfl (fun w => by kernel_rfl)) ?_
    refine Obs.cons (Ob.new _ rfl rfl zeroR (by simp [rl_length])) ?_
    refine Obs.cons (Ob.put 77 rfl rfl rfl (by kernel_rfl) (by kernel_rfl) (by rw [rl_length]; exact infoR) (rl_one _)) ?_
    refine Obs.cons (Ob.imm rfl (fun w => by kernel_rfl)) ?_
    exact Obs.nil
  have hn_b0_b5 := ne_of_fresh hs3 (hD.nw 10 _ _ rfl).1
  have hn_b2_b5 := ne_of_freshR hr_b2 (hD.nw 10 _ _ rfl).1
  have hn_b3_b5 := ne_of_freshR hr_b3 (hD.nw 10 _ _ rfl).1
  have hn_b4_b5 := ne_of_freshR hr_b4 (hD.nw 10 _ _ rfl).1
  replace hs3 := rangeAt_grown hs3 hD.gr
  replace hr_b2 := rangeAt_grown hr_b2 hD.gr
  replace hr_b3 := rangeAt_grown hr_b3 hD.gr
  replace hr_b4 := rangeAt_grown hr_b4 hD.gr
  replace ht_b0 := there_grown ht_b0 hD.gr
  replace ht_b1 := there_grown ht_b1 hD.gr
  replace ht_b2 := there_grown ht_b2 hD.gr
  replace ht_b3 := there_grown ht_b3 hD.gr
  replace ht_b4 := there_grown ht_b4 hD.gr
  obtain ⟨hf_b5, ht_b5⟩ := hD.nw 10 _ _ rfl
  have hr_b5 : w8.rangeAt (β 10) 0 (rl (d15 (β 8))) := hD.rg 11 10 8 (fun z => rl (d15 (z))) rfl
  replace hf_b5 := Nat.le_trans hW.2.2 hf_b5
  have hz8_2 : (β 2) < H ∧ (β 2) % p = sb (z6_2) (1) := hD.an 2 _ _ _ rfl
  have hz8_4 : (β 4) < H ∧ (β 4) % p = inv (z7_5) := hD.an 4 _ _ _ rfl
  have hz8_5 : (β 5) < H ∧ (β 5) % p = uu (b % H) * inv (vv (b % H)) % p := hD.an 5 _ _ _ rfl
  have hz8_6 : (β 6) < H ∧ True := hD.an 6 _ _ _ rfl
  have hz8_7 : β 6 = β 7 := (hD.an 7 _ _ _ rfl : β 7 = β 6).symm
  have hz8_8 : β 7 = β 8 := (hD.an 8 _ _ _ rfl : β 8 = β 7).symm
  replace hW := grown_trans hW hD.gr
  clear hD
  simp only [finAct, putAll, valsFrom, Plan.value, Act.put, List.setIfInBounds_toArray, List.set_cons_zero, List.set_cons_succ]
  replace hGl := hGl0.grown hW
  generalize β (0 + 1 + 1 + 1 + 1 + 1 + 1 + 1 + 1 + 1 + 1) = b5 at *
  generalize β (0 + 1 + 1) = z8_2 at *
  generalize β (0 + 1 + 1 + 1 + 1) = z8_4 at *
  generalize β (0 + 1 + 1 + 1 + 1 + 1) = z8_5 at *
  generalize β (0 + 1 + 1 + 1 + 1 + 1 + 1) = z8_6 at *
  generalize β (0 + 1 + 1 + 1 + 1 + 1 + 1 + 1) = z8_7 at *
  generalize β (0 + 1 + 1 + 1 + 1 + 1 + 1 + 1 + 1) = z8_8 at *
  subst hz8_7
  subst hz8_8
  have hq8_2 := Hid.of hz8_2.2
  replace hz8_2 := hz8_2.1
  have hq8_4 := Hid.of hz8_4.2
  replace hz8_4 := hz8_4.1
  have hq8_5 := Hid.of hz8_5.2
  replace hz8_5 := hz8_5.1
  have hq8_6 := Hid.of hz8_6.2
  replace hz8_6 := hz8_6.1
  repeat ((fail_if_success (with_reducible show Code.wp _ (Code.region _ _ _) _ _ _)); go_step)
  refine wp_plain [.imm (.bool false), .imm (.bool true)] (by kernel_rfl) (fun β => ?_) (fun β w9 hD => ?_)
  · refine Obs.cons (Ob.imm rfl (fun w => by kernel_rfl)) ?_
    refine Obs.cons (Ob.imm rfl (fun w => by kernel_rfl)) ?_
    exact Obs.nil
  replace hs3 := rangeAt_grown hs3 hD.gr
  replace hr_b2 := rangeAt_grown hr_b2 hD.gr
  replace hr_b3 := rangeAt_grown hr_b3 hD.gr
  replace hr_b4 := rangeAt_grown hr_b4 hD.gr
  replace hr_b5 := rangeAt_grown hr_b5 hD.gr
  replace ht_b0 := there_grown ht_b0 hD.gr
  replace ht_b1 := there_grown ht_b1 hD.gr
  replace ht_b2 := there_grown ht_b2 hD.gr
  replace ht_b3 := there_grown ht_b3 hD.gr
  replace ht_b4 := there_grown ht_b4 hD.gr
  replace ht_b5 := there_grown ht_b5 hD.gr
  replace hW := grown_trans hW hD.gr
  clear hD
  simp only [finAct, putAll, valsFrom, Plan.value, Act.put, List.setIfInBounds_toArray, List.set_cons_zero, List.set_cons_succ]
  replace hGl := hGl0.grown hW
  repeat ((fail_if_success (with_reducible show Code.wp _ (Code.region _ _ _) _ _ _)); go_step)
  refine wp_plain_fin [.imm (pv (0) (0)), .fin, .imm (.int .i64 (41))] (b1) 0 (fun _ => pcs (0) (0)) (by kernel_rfl) (fun β => ?_) (fun β w10 hD => ?_)
  · refine Obs.cons (Ob.imm rfl (fun w => exec_build rfl (by kernel_rfl) (build_q0 w))) ?_
    refine Obs.cons (Ob.fin rfl (by rw [pcs_length]; exact ht_b1) rfl (by kernel_rfl) (by kernel_rfl) (by rw [pcs_length]; exact infoQ) (pcs_one _ _)) ?_
    refine Obs.cons (Ob.imm rfl (fun w => by kernel_rfl)) ?_
    exact Obs.nil
  replace hs3 := rangeAt_grown hs3 hD.gr
  replace hr_b2 := rangeAt_grown hr_b2 hD.gr
  replace hr_b3 := rangeAt_grown hr_b3 hD.gr
  replace hr_b4 := rangeAt_grown hr_b4 hD.gr
  replace hr_b5 := rangeAt_grown hr_b5 hD.gr
  replace ht_b0 := there_grown ht_b0 hD.gr
  replace ht_b1 := there_grown ht_b1 hD.gr
  replace ht_b2 := there_grown ht_b2 hD.gr
  replace ht_b3 := there_grown ht_b3 hD.gr
  replace ht_b4 := there_grown ht_b4 hD.gr
  replace ht_b5 := there_grown ht_b5 hD.gr
  replace hW := grown_trans hW hD.gr
  clear hD
  simp only [finAct, putAll, valsFrom, Plan.value, Act.put, List.setIfInBounds_toArray, List.set_cons_zero, List.set_cons_succ]
  replace hGl := hGl0.grown hW
  have hs10 := World.rangeAt_setCells_same w10 (b1) 0 (pcs (0) (0)) (by rw [pcs_length]; exact ht_b1)
  replace hW := grown_setCells hf_b1 (pcs (0) (0)) 0 hW
  generalize w10.setCells (b1) 0 (pcs (0) (0)) = w10s at *
  repeat go_step
  refine bodyPost_ret (v := .tuple #[pv (0) (0), .int .i64 (41)]) (result_cell_tmp Tryd.results36 _ _ (b1) _ (.int .i64 (41)) ?hp ?hv hs10 Tryd.underlying39 rfl (by rw [pcs_length]; exact infoQ)) ?hd ?_
  case hp => rfl
  case hv => rfl
  case hd => rfl
  exact ⟨rfl, hW⟩

set_option maxRecDepth 100000 in
set_option maxHeartbeats 2000000 in
theorem RD_sign (b : Nat) (hb : b < M) (hs : ¬ b < H) (hy : b % H < p) (hr : rok (uu (b % H)) (vv (b % H))) (h0 : rt (uu (b % H)) (vv (b % H)) = 0) (w : World) (hGl0 : GR w) :
    Calls Tryd.prog 36 #[bv b] w fun e w' => e = .returned (.tuple #[pv 0 0, .int .i64 42]) ∧ Grown w w' := by
  have hW := Grown.refl w
  have hGl := hGl0
  go_enter Tryd.func36, Tryd.ntmps36
  repeat ((fail_if_success (with_reducible show Code.wp _ (Code.region _ _ _) _ _ _)); go_step)
  refine wp_plain [.box 23 (bl (b)), .new 39 64, .imm (.int .i64 (0))] (by kernel_rfl) (fun β => ?_) (fun β w1 hD => ?_)
  · refine Obs.cons (Ob.box rfl rfl (by kernel_rfl)) ?_
    refine Obs.cons (Ob.new _ rfl rfl zeroQ (by simp [pcs_length])) ?_
    refine Obs.cons (Ob.imm rfl (fun w => by kernel_rfl)) ?_
    exact Obs.nil
  obtain ⟨hf_b0, hr_b0⟩ := hD.bx 0 _ _ rfl
  have ht_b0 := there_boxB hr_b0 hf_b0 hD.gr
  replace hf_b0 := Nat.le_trans hW.2.2 hf_b0
  obtain ⟨hf_b1, ht_b1⟩ := hD.nw 1 _ _ rfl
  replace hf_b1 := Nat.le_trans hW.2.2 hf_b1
  have hn_b0_b1 := hD.ap 0 1 _ _ rfl rfl rfl rfl (by decide)
  replace hW := grown_trans hW hD.gr
  clear hD
  simp only [finAct, putAll, valsFrom, Plan.value, Act.put, List.setIfInBounds_toArray, List.set_cons_zero, List.set_cons_succ]
  replace hGl := hGl0.grown hW
  generalize β 0 = b0 at *
  generalize β (0 + 1) = b1 at *
  repeat ((fail_if_success (with_reducible show Code.wp _ (Code.region _ _ _) _ _ _)); go_step)
  refine wp_plain [.val (bv (b)), .val (.int .i64 (1)), .imm (.int .i64 (1))] (by kernel_rfl) (fun β => ?_) (fun β w2 hD => ?_)
  · refine Obs.cons (Ob.load (b0) 0 (bl (b)) rfl rfl (by kernel_rfl) hr_b0 Tryd.underlying23 rfl (by rw [bl_length]; exact info32)) ?_
    refine Obs.cons (Ob.call 66 #[bv (b), .int .i64 (255)] rfl (fun w => by kernel_rfl) (fun w hg => Bit_1 b hb hs w)) ?_
    refine Obs.cons (Ob.imm rfl (fun w => by kernel_rfl)) ?_
    exact Obs.nil
  replace hr_b0 := rangeAt_grown hr_b0 hD.gr
  replace ht_b0 := there_grown ht_b0 hD.gr
  replace ht_b1 := there_grown ht_b1 hD.gr
  replace hW := grown_trans hW hD.gr
  clear hD
  simp only [finAct, putAll, valsFrom, Plan.value, Act.put, List.setIfInBounds_toArray, List.set_cons_zero, List.set_cons_succ]
  replace hGl := hGl0.grown hW
  repeat ((fail_if_success (with_reducible show Code.wp _ (Code.region _ _ _) _ _ _)); go_step)
  refine wp_plain_fin [.imm (.pointer (some ⟨b0, 31, none⟩)), .val (.int .u8 (top (b) : Nat)), .imm (.int .u8 (top (b % H) : Nat)), .imm (.pointer (some ⟨b0, 31, none⟩)), .fin] (b0) 31 (fun _ => [.int .u8 (top (b % H) : Nat)]) (by kernel_rfl) (fun β => ?_) (fun β w3 hD => ?_)
  · refine Obs.cons (Ob.imm rfl (fun w => exec_idx 31 (by decide) rfl (by kernel_rfl) (by kernel_rfl))) ?_
    refine Obs.cons (Ob.load1 (b0) 31 rfl rfl (by kernel_rfl) (block_lt_of_cell (cell_top hr_b0)) (cell_top hr_b0) (fun w h => run_load8 w h)) ?_
    refine Obs.cons (Ob.imm rfl (fun w => exec_and8 (top (b)) (127) (top (b % H)) rfl (by kernel_rfl) (by kernel_rfl) (by rw [top_low]; exact and127 ⟨top b, top_lt b⟩))) ?_
    refine Obs.cons (Ob.imm rfl (fun w => exec_idx 31 (by decide) rfl (by kernel_rfl) (by kernel_rfl))) ?_
    refine Obs.cons (Ob.fin1 (.int .u8 (top (b % H) : Nat)) rfl rfl (there_31 ht_b0) rfl (by kernel_rfl) (by kernel_rfl) (fun w v0 h hf => run_store8 w v0 h hf)) ?_
    exact Obs.nil
  replace hr_b0 := rangeAt_grown hr_b0 hD.gr
  replace ht_b0 := there_grown ht_b0 hD.gr
  replace ht_b1 := there_grown ht_b1 hD.gr
  replace hW := grown_trans hW hD.gr
  clear hD
  simp only [finAct, putAll, valsFrom, Plan.value, Act.put, List.setIfInBounds_toArray, List.set_cons_zero, List.set_cons_succ]
  replace hGl := hGl0.grown hW
  have hs3 : (w3.setCells (b0) 31 [.int .u8 (top (b % H) : Nat)]).rangeAt (b0) 0 (bl (b % H)) := rangeAt_top hr_b0 (low_byte b)
  replace hW := grown_setCells hf_b0 [.int .u8 (top (b % H) : Nat)] 31 hW
  replace ht_b0 := World.there_setCells ht_b0 (b0) 31 [.int .u8 (top (b % H) : Nat)]
  replace ht_b1 := World.there_setCells ht_b1 (b0) 31 [.int .u8 (top (b % H) : Nat)]
  replace hGl := hGl0.grown hW
  generalize w3.setCells (b0) 31 [.int .u8 (top (b % H) : Nat)] = w3s at *
  repeat ((fail_if_success (with_reducible show Code.wp _ (Code.region _ _ _) _ _ _)); go_step)
  refine wp_plain [.val (bv (b % H)), .val (.bool true), .imm (.bool false)] (by kernel_rfl) (fun β => ?_) (fun β w4 hD => ?_)
  · refine Obs.cons (Ob.load (b0) 0 (bl (b % H)) rfl rfl (by kernel_rfl) hs3 Tryd.underlying23 rfl (by rw [bl_length]; exact info32)) ?_
    refine Obs.cons (Ob.call 67 #[bv (b % H)] rfl (fun w => by kernel_rfl) (fun w hg => canonR1 (b % H) (low_lt b) hy w)) ?_
    refine Obs.cons (Ob.imm rfl (fun w => by kernel_rfl)) ?_
    exact Obs.nil
  replace hs3 := rangeAt_grown hs3 hD.gr
  replace ht_b0 := there_grown ht_b0 hD.gr
  replace ht_b1 := there_grown ht_b1 hD.gr
  replace hW := grown_trans hW hD.gr
  clear hD
  simp only [finAct, putAll, valsFrom, Plan.value, Act.put, List.setIfInBounds_toArray, List.set_cons_zero, List.set_cons_succ]
  replace hGl := hGl0.grown hW
  repeat ((fail_if_success (with_reducible show Code.wp _ (Code.region _ _ _) _ _ _)); go_step)
  refine wp_plain [.val (bv (b % H)), .val (rn (b % H)), .new 77 17, .put 2 2 (fun _ => rl (d15 (b % H)))] (by kernel_rfl) (fun β => ?_) (fun β w5 hD => ?_)
  · refine Obs.cons (Ob.load (b0) 0 (bl (b % H)) rfl rfl (by kernel_rfl) hs3 Tryd.underlying23 rfl (by rw [bl_length]; exact info32)) ?_
    refine Obs.cons (Ob.call 63 #[bv (b % H)] rfl (fun w => by kernel_rfl) (fun w hg => read_y b w)) ?_
    refine Obs.cons (Ob.new _ rfl rfl zeroR (by simp [rl_length])) ?_
    refine Obs.cons (Ob.put 77 rfl rfl rfl (by kernel_rfl) (by kernel_rfl) (by rw [rl_length]; exact infoR) (rl_one _)) ?_
    exact Obs.nil
  have hn_b0_b2 := ne_of_fresh hs3 (hD.nw 2 _ _ rfl).1
  replace hs3 := rangeAt_grown hs3 hD.gr
  replace ht_b0 := there_grown ht_b0 hD.gr
  replace ht_b1 := there_grown ht_b1 hD.gr
  obtain ⟨hf_b2, ht_b2⟩ := hD.nw 2 _ _ rfl
  have hr_b2 : w5.rangeAt (β 2) 0 (rl (d15 (b % H))) := hD.rg 3 2 2 (fun _ => rl (d15 (b % H))) rfl
  replace hf_b2 := Nat.le_trans hW.2.2 hf_b2
  replace hW := grown_trans hW hD.gr
  clear hD
  simp only [finAct, putAll, valsFrom, Plan.value, Act.put, List.setIfInBounds_toArray, List.set_cons_zero, List.set_cons_succ]
  replace hGl := hGl0.grown hW
  generalize β (0 + 1 + 1) = b2 at *
  repeat ((fail_if_success (with_reducible show Code.wp _ (Code.region _ _ _) _ _ _)); go_step)
  refine wp_plain [.val (rn (b % H)), .val (rn (b % H)), .any (fun z => rn (z)) [] (fun l z => z < H ∧ z % p = (b % H) * (b % H) % p), .new 77 17, .put 3 2 (fun z => rl (d15 (z)))] (by kernel_rfl) (fun β => ?_) (fun β w6 hD => ?_)
  · refine Obs.cons (Ob.load (b2) 0 (rl (d15 (b % H))) rfl rfl (by kernel_rfl) hr_b2 Tryd.underlying77 rfl (by rw [rl_length]; exact infoR)) ?_
    refine Obs.cons (Ob.load (b2) 0 (rl (d15 (b % H))) rfl rfl (by kernel_rfl) hr_b2 Tryd.underlying77 rfl (by rw [rl_length]; exact infoR)) ?_
    refine Obs.cons (Ob.any 68 #[rn (b % H), rn (b % H)] rfl (fun w => by kernel_rfl) (fun hk w hg => times_r (b % H) (b % H) (mod_HH _) (mod_HH _) w)) ?_
    refine Obs.cons (Ob.new _ rfl rfl zeroR (by simp [rl_length])) ?_
    refine Obs.cons (Ob.put 77 rfl rfl rfl (by kernel_rfl) (by kernel_rfl) (by rw [rl_length]; exact infoR) (rl_one _)) ?_
    exact Obs.nil
  have hn_b0_b3 := ne_of_fresh hs3 (hD.nw 3 _ _ rfl).1
  have hn_b2_b3 := ne_of_freshR hr_b2 (hD.nw 3 _ _ rfl).1
  replace hs3 := rangeAt_grown hs3 hD.gr
  replace hr_b2 := rangeAt_grown hr_b2 hD.gr
  replace ht_b0 := there_grown ht_b0 hD.gr
  replace ht_b1 := there_grown ht_b1 hD.gr
  replace ht_b2 := there_grown ht_b2 hD.gr
  obtain ⟨hf_b3, ht_b3⟩ := hD.nw 3 _ _ rfl
  have hr_b3 : w6.rangeAt (β 3) 0 (rl (d15 (β 2))) := hD.rg 4 3 2 (fun z => rl (d15 (z))) rfl
  replace hf_b3 := Nat.le_trans hW.2.2 hf_b3
  have hz6_2 : (β 2) < H ∧ (β 2) % p = (b % H) * (b % H) % p := hD.an 2 _ _ _ rfl
  replace hW := grown_trans hW hD.gr
  clear hD
  simp only [finAct, putAll, valsFrom, Plan.value, Act.put, List.setIfInBounds_toArray, List.set_cons_zero, List.set_cons_succ]
  replace hGl := hGl0.grown hW
  generalize β (0 + 1 + 1 + 1) = b3 at *
  generalize β (0 + 1 + 1) = z6_2 at *
  have hq6_2 := Hid.of hz6_2.2
  replace hz6_2 := hz6_2.1
  repeat ((fail_if_success (with_reducible show Code.wp _ (Code.region _ _ _) _ _ _)); go_step)
  replace hs3 := rangeAt_grown hs3 (gdrew w6)
  replace hr_b2 := rangeAt_grown hr_b2 (gdrew w6)
  replace hr_b3 := rangeAt_grown hr_b3 (gdrew w6)
  replace ht_b0 := there_grown ht_b0 (gdrew w6)
  replace ht_b1 := there_grown ht_b1 (gdrew w6)
  replace ht_b2 := there_grown ht_b2 (gdrew w6)
  replace ht_b3 := there_grown ht_b3 (gdrew w6)
  replace hW := grown_trans hW (gdrew w6)
  replace hGl := hGl0.grown hW
  refine wp_loose [.val (bv (dd)), .val (rn (dd)), .val (rn (z6_2)), .any (fun z => rn (z)) [] (fun l z => z < H ∧ z % p = (dd) * (z6_2) % p), .val (rn (1)), .any (fun z => rn (z)) [3] (fun l z => z < H ∧ z % p = ((l.getD 0 0) + (1)) % p), .new 77 17, .put 6 5 (fun z => rl (d15 (z)))] (by kernel_rfl) (by kernel_rfl) (fun β => ?_) (fun β w7 hD => ?_)
  · refine Obs.cons (Ob.load (1) 0 (bl (dd)) rfl rfl (by kernel_rfl) hGl.rd Tryd.underlying23 rfl (by rw [bl_length]; exact info32)) ?_
    refine Obs.cons (Ob.call 63 #[bv (dd)] rfl (fun w => by kernel_rfl) (fun w hg => read_d w)) ?_
    refine Obs.cons (Ob.load (b3) 0 (rl (d15 (z6_2))) rfl rfl (by kernel_rfl) hr_b3 Tryd.underlying77 rfl (by rw [rl_length]; exact infoR)) ?_
    refine Obs.cons (Ob.any 68 #[rn (dd), rn (z6_2)] rfl (fun w => by kernel_rfl) (fun hk w hg => times_r (dd) (z6_2) dd_H hz6_2 w)) ?_
    refine Obs.cons (Ob.call 60 #[.int .i64 (1)] rfl (fun w => by kernel_rfl) (fun w hg => small_v 1 (by decide) 1 rfl w)) ?_
    refine Obs.cons (Ob.any 69 #[rn (β 3), rn (1)] rfl (fun w => by kernel_rfl) (fun hk w hg => plus_r (β 3) (1) (hk 3 _ _ _ rfl (bindsTo_spec (by kernel_rfl))).1 (by decide) w)) ?_
    refine Obs.cons (Ob.new _ rfl rfl zeroR (by simp [rl_length])) ?_
    refine Obs.cons (Ob.put 77 rfl rfl rfl (by kernel_rfl) (by kernel_rfl) (by rw [rl_length]; exact infoR) (rl_one _)) ?_
    exact Obs.nil
  have hn_b0_b4 := ne_of_fresh hs3 (hD.nw 6 _ _ rfl).1
  have hn_b2_b4 := ne_of_freshR hr_b2 (hD.nw 6 _ _ rfl).1
  have hn_b3_b4 := ne_of_freshR hr_b3 (hD.nw 6 _ _ rfl).1
  replace hs3 := rangeAt_grown hs3 hD.gr
  replace hr_b2 := rangeAt_grown hr_b2 hD.gr
  replace hr_b3 := rangeAt_grown hr_b3 hD.gr
  replace ht_b0 := there_grown ht_b0 hD.gr
  replace ht_b1 := there_grown ht_b1 hD.gr
  replace ht_b2 := there_grown ht_b2 hD.gr
  replace ht_b3 := there_grown ht_b3 hD.gr
  obtain ⟨hf_b4, ht_b4⟩ := hD.nw 6 _ _ rfl
  have hr_b4 : w7.rangeAt (β 6) 0 (rl (d15 (β 5))) := hD.rg 7 6 5 (fun z => rl (d15 (z))) rfl
  replace hf_b4 := Nat.le_trans hW.2.2 hf_b4
  have hz7_3 : (β 3) < H ∧ (β 3) % p = (dd) * (z6_2) % p := hD.an 3 _ _ _ rfl
  have hz7_5 : (β 5) < H ∧ (β 5) % p = ((β 3) + (1)) % p := hD.an 5 _ _ _ rfl
  replace hW := grown_trans hW hD.gr
  clear hD
  simp only [finAct, putAll, valsFrom, Plan.value, Act.put, List.setIfInBounds_toArray, List.set_cons_zero, List.set_cons_succ]
  replace hGl := hGl0.grown hW
  generalize β (0 + 1 + 1 + 1 + 1 + 1 + 1) = b4 at *
  generalize β (0 + 1 + 1 + 1) = z7_3 at *
  generalize β (0 + 1 + 1 + 1 + 1 + 1) = z7_5 at *
  have hq7_3 := Hid.of hz7_3.2
  replace hz7_3 := hz7_3.1
  have hq7_5 := Hid.of hz7_5.2
  replace hz7_5 := hz7_5.1
  repeat ((fail_if_success (with_reducible show Code.wp _ (Code.region _ _ _) _ _ _)); go_step)
  replace hs3 := rangeAt_grown hs3 (gdrew w7)
  replace hr_b2 := rangeAt_grown hr_b2 (gdrew w7)
  replace hr_b3 := rangeAt_grown hr_b3 (gdrew w7)
  replace hr_b4 := rangeAt_grown hr_b4 (gdrew w7)
  replace ht_b0 := there_grown ht_b0 (gdrew w7)
  replace ht_b1 := there_grown ht_b1 (gdrew w7)
  replace ht_b2 := there_grown ht_b2 (gdrew w7)
  replace ht_b3 := there_grown ht_b3 (gdrew w7)
  replace ht_b4 := there_grown ht_b4 (gdrew w7)
  replace hW := grown_trans hW (gdrew w7)
  replace hGl := hGl0.grown hW
  refine wp_loose [.val (rn (z6_2)), .val (rn (1)), .any (fun z => rn (z)) [] (fun l z => z < H ∧ z % p = sb (z6_2) (1)), .val (rn (z7_5)), .any (fun z => rn (z)) [] (fun l z => z < H ∧ z % p = inv (z7_5)), .any (fun z => rn (z)) [2, 4] (fun l z => z < H ∧ z % p = uu (b % H) * inv (vv (b % H)) % p), .any (fun z => .tuple #[rn (z), .bool true]) [5] (fun l z => z < H ∧ vv (b % H) * ((z % p) * (z % p)) % p = uu (b % H) % p), .any (fun z => .tuple #[rn (z), .bool true]) [6] (fun l b => b = l.getD 0 0), .any (fun z => rn (z)) [7] (fun l b => b = l.getD 0 0), .imm (.bool true), .new 77 17, .put 10 8 (fun z => rl (d15 (z))), .imm (.bool true)] (by kernel_rfl) (by kernel_rfl) (fun β => ?_) (fun β w8 hD => ?_)
  · refine Obs.cons (Ob.load (b3) 0 (rl (d15 (z6_2))) rfl rfl (by kernel_rfl) hr_b3 Tryd.underlying77 rfl (by rw [rl_length]; exact infoR)) ?_
    refine Obs.cons (Ob.call 60 #[.int .i64 (1)] rfl (fun w => by kernel_rfl) (fun w hg => small_v 1 (by decide) 1 rfl w)) ?_
    refine Obs.cons (Ob.any 71 #[rn (z6_2), rn (1)] rfl (fun w => by kernel_rfl) (fun hk w hg => minus_r (z6_2) (1) hz6_2 (by decide) w)) ?_
    refine Obs.cons (Ob.load (b4) 0 (rl (d15 (z7_5))) rfl rfl (by kernel_rfl) hr_b4 Tryd.underlying77 rfl (by rw [rl_length]; exact infoR)) ?_
    refine Obs.cons (Ob.any 72 #[rn (z7_5)] rfl (fun w => by kernel_rfl) (fun hk w hg => inverse_r (z7_5) hz7_5 w)) ?_
    refine Obs.cons (Ob.any 68 #[rn (β 2), rn (β 4)] rfl (fun w => by kernel_rfl) (fun hk w hg => (times_r (β 2) (β 4) (hk 2 _ _ _ rfl (bindsTo_spec (by kernel_rfl))).1 (hk 4 _ _ _ rfl (bindsTo_spec (by kernel_rfl))).1 w).mono fun _ _ ⟨⟨z, h1, h2, h3⟩, h4⟩ => ⟨⟨z, h1, h2, arg_root hq6_2.out hq7_3.out hq7_5.out (hk 2 _ _ _ rfl (bindsTo_spec (by kernel_rfl))).2 (hk 4 _ _ _ rfl (bindsTo_spec (by kernel_rfl))).2 h3⟩, h4⟩)) ?_
    refine Obs.cons (Ob.any 70 #[rn (β 5)] rfl (fun w => by kernel_rfl) (fun hk w hg => (root_yes (β 5) (hk 5 _ _ _ rfl (bindsTo_spec (by kernel_rfl))).1 ((sqr_rok (vv_ne _) (hk 5 _ _ _ rfl (bindsTo_spec (by kernel_rfl))).2).2 hr) w).mono fun _ _ ⟨⟨z, h1, h2, h3⟩, h4⟩ => ⟨⟨z, h1, h2, root_of_sq (vv_ne _) (hk 5 _ _ _ rfl (bindsTo_spec (by kernel_rfl))).2 h3⟩, h4⟩)) ?_
    refine Obs.cons (Ob.der (β 6) rfl (fun _ w => by kernel_rfl) (fun _ => rfl)) ?_
    refine Obs.cons (Ob.der (β 7) rfl (fun _ w => by kernel_rfl) (fun _ => rfl)) ?_
    refine Obs.cons (Ob.imm rfl (fun w => by kernel_rfl)) ?_
    refine Obs.cons (Ob.new _ rfl rfl zeroR (by simp [rl_length])) ?_
    refine Obs.cons (Ob.put 77 rfl rfl rfl (by kernel_rfl) (by kernel_rfl) (by rw [rl_length]; exact infoR) (rl_one _)) ?_
    refine Obs.cons (Ob.imm rfl (fun w => by kernel_rfl)) ?_
    exact Obs.nil
  have hn_b0_b5 := ne_of_fresh hs3 (hD.nw 10 _ _ rfl).1
  have hn_b2_b5 := ne_of_freshR hr_b2 (hD.nw 10 _ _ rfl).1
  have hn_b3_b5 := ne_of_freshR hr_b3 (hD.nw 10 _ _ rfl).1
  have hn_b4_b5 := ne_of_freshR hr_b4 (hD.nw 10 _ _ rfl).1
  replace hs3 := rangeAt_grown hs3 hD.gr
  replace hr_b2 := rangeAt_grown hr_b2 hD.gr
  replace hr_b3 := rangeAt_grown hr_b3 hD.gr
  replace hr_b4 := rangeAt_grown hr_b4 hD.gr
  replace ht_b0 := there_grown ht_b0 hD.gr
  replace ht_b1 := there_grown ht_b1 hD.gr
  replace ht_b2 := there_grown ht_b2 hD.gr
  replace ht_b3 := there_grown ht_b3 hD.gr
  replace ht_b4 := there_grown ht_b4 hD.gr
  obtain ⟨hf_b5, ht_b5⟩ := hD.nw 10 _ _ rfl
  have hr_b5 : w8.rangeAt (β 10) 0 (rl (d15 (β 8))) := hD.rg 11 10 8 (fun z => rl (d15 (z))) rfl
  replace hf_b5 := Nat.le_trans hW.2.2 hf_b5
  have hz8_2 : (β 2) < H ∧ (β 2) % p = sb (z6_2) (1) := hD.an 2 _ _ _ rfl
  have hz8_4 : (β 4) < H ∧ (β 4) % p = inv (z7_5) := hD.an 4 _ _ _ rfl
  have hz8_5 : (β 5) < H ∧ (β 5) % p = uu (b % H) * inv (vv (b % H)) % p := hD.an 5 _ _ _ rfl
  have hz8_6 : (β 6) < H ∧ vv (b % H) * (((β 6) % p) * ((β 6) % p)) % p = uu (b % H) % p := hD.an 6 _ _ _ rfl
  have hz8_7 : β 6 = β 7 := (hD.an 7 _ _ _ rfl : β 7 = β 6).symm
  have hz8_8 : β 7 = β 8 := (hD.an 8 _ _ _ rfl : β 8 = β 7).symm
  replace hW := grown_trans hW hD.gr
  clear hD
  simp only [finAct, putAll, valsFrom, Plan.value, Act.put, List.setIfInBounds_toArray, List.set_cons_zero, List.set_cons_succ]
  replace hGl := hGl0.grown hW
  generalize β (0 + 1 + 1 + 1 + 1 + 1 + 1 + 1 + 1 + 1 + 1) = b5 at *
  generalize β (0 + 1 + 1) = z8_2 at *
  generalize β (0 + 1 + 1 + 1 + 1) = z8_4 at *
  generalize β (0 + 1 + 1 + 1 + 1 + 1) = z8_5 at *
  generalize β (0 + 1 + 1 + 1 + 1 + 1 + 1) = z8_6 at *
  generalize β (0 + 1 + 1 + 1 + 1 + 1 + 1 + 1) = z8_7 at *
  generalize β (0 + 1 + 1 + 1 + 1 + 1 + 1 + 1 + 1) = z8_8 at *
  subst hz8_7
  subst hz8_8
  have hq8_2 := Hid.of hz8_2.2
  replace hz8_2 := hz8_2.1
  have hq8_4 := Hid.of hz8_4.2
  replace hz8_4 := hz8_4.1
  have hq8_5 := Hid.of hz8_5.2
  replace hz8_5 := hz8_5.1
  have hq8_6 := Hid.of hz8_6.2
  replace hz8_6 := hz8_6.1
  repeat ((fail_if_success (with_reducible show Code.wp _ (Code.region _ _ _) _ _ _)); go_step)
  refine wp_plain [.imm (.bool true), .imm (.bool false)] (by kernel_rfl) (fun β => ?_) (fun β w9 hD => ?_)
  · refine Obs.cons (Ob.imm rfl (fun w => by kernel_rfl)) ?_
    refine Obs.cons (Ob.imm rfl (fun w => by kernel_rfl)) ?_
    exact Obs.nil
  replace hs3 := rangeAt_grown hs3 hD.gr
  replace hr_b2 := rangeAt_grown hr_b2 hD.gr
  replace hr_b3 := rangeAt_grown hr_b3 hD.gr
  replace hr_b4 := rangeAt_grown hr_b4 hD.gr
  replace hr_b5 := rangeAt_grown hr_b5 hD.gr
  replace ht_b0 := there_grown ht_b0 hD.gr
  replace ht_b1 := there_grown ht_b1 hD.gr
  replace ht_b2 := there_grown ht_b2 hD.gr
  replace ht_b3 := there_grown ht_b3 hD.gr
  replace ht_b4 := there_grown ht_b4 hD.gr
  replace ht_b5 := there_grown ht_b5 hD.gr
  replace hW := grown_trans hW hD.gr
  clear hD
  simp only [finAct, putAll, valsFrom, Plan.value, Act.put, List.setIfInBounds_toArray, List.set_cons_zero, List.set_cons_succ]
  replace hGl := hGl0.grown hW
  repeat ((fail_if_success (with_reducible show Code.wp _ (Code.region _ _ _) _ _ _)); go_step)
  have hro := Hid.of (two_roots (vv_ne _) hq8_6.out (Nat.mod_lt _ p_pos))
  clear hq6_2 hq7_3 hq7_5 hq8_2 hq8_4 hq8_5 hq8_6
  refine wp_plain_fin [.val (rn (z8_6)), .val (rn ((z8_6) % p)), .fin] (b5) 0 (fun _ => rl (d15 ((z8_6) % p))) (by kernel_rfl) (fun β => ?_) (fun β w10 hD => ?_)
  · refine Obs.cons (Ob.load (b5) 0 (rl (d15 (z8_6))) rfl rfl (by kernel_rfl) hr_b5 Tryd.underlying77 rfl (by rw [rl_length]; exact infoR)) ?_
    refine Obs.cons (Ob.call 73 #[rn (z8_6)] rfl (fun w => by kernel_rfl) (fun w hg => least_r (z8_6) hz8_6 w)) ?_
    refine Obs.cons (Ob.fin rfl (by rw [rl_length]; exact ht_b5) rfl (by kernel_rfl) (by kernel_rfl) (by rw [rl_length]; exact infoR) (rl_one _)) ?_
    exact Obs.nil
  replace hs3 := rangeAt_grown hs3 hD.gr
  replace hr_b2 := rangeAt_grown hr_b2 hD.gr
  replace hr_b3 := rangeAt_grown hr_b3 hD.gr
  replace hr_b4 := rangeAt_grown hr_b4 hD.gr
  replace hr_b5 := rangeAt_grown hr_b5 hD.gr
  replace ht_b0 := there_grown ht_b0 hD.gr
  replace ht_b1 := there_grown ht_b1 hD.gr
  replace ht_b2 := there_grown ht_b2 hD.gr
  replace ht_b3 := there_grown ht_b3 hD.gr
  replace ht_b4 := there_grown ht_b4 hD.gr
  replace ht_b5 := there_grown ht_b5 hD.gr
  replace hW := grown_trans hW hD.gr
  clear hD
  simp only [finAct, putAll, valsFrom, Plan.value, Act.put, List.setIfInBounds_toArray, List.set_cons_zero, List.set_cons_succ]
  replace hGl := hGl0.grown hW
  have hs10 := World.rangeAt_setCells_same w10 (b5) 0 (rl (d15 ((z8_6) % p))) (by rw [rl_length]; exact ht_b5)
  replace hW := grown_setCells hf_b5 (rl (d15 ((z8_6) % p))) 0 hW
  replace hs3 := World.rangeAt_setCells_apart hs3 (b5) 0 (rl (d15 ((z8_6) % p))) (.inl (hn_b0_b5))
  replace ht_b0 := World.there_setCells ht_b0 (b5) 0 (rl (d15 ((z8_6) % p)))
  replace ht_b1 := World.there_setCells ht_b1 (b5) 0 (rl (d15 ((z8_6) % p)))
  replace ht_b2 := World.there_setCells ht_b2 (b5) 0 (rl (d15 ((z8_6) % p)))
  replace ht_b3 := World.there_setCells ht_b3 (b5) 0 (rl (d15 ((z8_6) % p)))
  replace ht_b4 := World.there_setCells ht_b4 (b5) 0 (rl (d15 ((z8_6) % p)))
  replace ht_b5 := World.there_setCells ht_b5 (b5) 0 (rl (d15 ((z8_6) % p)))
  replace hGl := hGl0.grown hW
  generalize w10.setCells (b5) 0 (rl (d15 ((z8_6) % p))) = w10s at *
  repeat ((fail_if_success (with_reducible show Code.wp _ (Code.region _ _ _) _ _ _)); go_step)
  have hx0 := x_zero hro.out h0
  replace hx0 := Hid.of hx0
  replace hs3 := rangeAt_grown hs3 (gdrew w10s)
  replace hs10 := rangeAt_grown hs10 (gdrew w10s)
  replace ht_b0 := there_grown ht_b0 (gdrew w10s)
  replace ht_b1 := there_grown ht_b1 (gdrew w10s)
  replace ht_b2 := there_grown ht_b2 (gdrew w10s)
  replace ht_b3 := there_grown ht_b3 (gdrew w10s)
  replace ht_b4 := there_grown ht_b4 (gdrew w10s)
  replace ht_b5 := there_grown ht_b5 (gdrew w10s)
  replace hW := grown_trans hW (gdrew w10s)
  replace hGl := hGl0.grown hW
  refine wp_loose [.val (rn ((z8_6) % p)), .val (rn (0)), .imm (.bool true), .imm (.bool true), .imm (.int .i64 (1)), .imm (.bool true), .imm (.bool true)] (by kernel_rfl) (by kernel_rfl) (fun β => ?_) (fun β w11 hD => ?_)
  · refine Obs.cons (Ob.load (b5) 0 (rl (d15 ((z8_6) % p))) rfl rfl (by kernel_rfl) hs10 Tryd.underlying77 rfl (by rw [rl_length]; exact infoR)) ?_
    refine Obs.cons (Ob.call 60 #[.int .i64 (0)] rfl (fun w => by kernel_rfl) (fun w hg => small_v 0 (by decide) 0 rfl w)) ?_
    refine Obs.cons (Ob.imm rfl (fun w => exec_eqlR rfl ((z8_6) % p) (0) (by kernel_rfl) (by kernel_rfl) (mod_H _) (by decide) true (decide_eq_true hx0.out) w)) ?_
    refine Obs.cons (Ob.imm rfl (fun w => by kernel_rfl)) ?_
    refine Obs.cons (Ob.imm (by kernel_rfl) (fun w => by kernel_rfl)) ?_
    refine Obs.cons (Ob.imm (by kernel_rfl) (fun w => by kernel_rfl)) ?_
    refine Obs.cons (Ob.imm rfl (fun w => by kernel_rfl)) ?_
    exact Obs.nil
  replace hs3 := rangeAt_grown hs3 hD.gr
  replace hs10 := rangeAt_grown hs10 hD.gr
  replace ht_b0 := there_grown ht_b0 hD.gr
  replace ht_b1 := there_grown ht_b1 hD.gr
  replace ht_b2 := there_grown ht_b2 hD.gr
  replace ht_b3 := there_grown ht_b3 hD.gr
  replace ht_b4 := there_grown ht_b4 hD.gr
  replace ht_b5 := there_grown ht_b5 hD.gr
  replace hW := grown_trans hW hD.gr
  clear hD
  simp only [finAct, putAll, valsFrom, Plan.value, Act.put, List.setIfInBounds_toArray, List.set_cons_zero, List.set_cons_succ]
  replace hGl := hGl0.grown hW
  repeat ((fail_if_success (with_reducible show Code.wp _ (Code.region _ _ _) _ _ _)); go_step)
  refine wp_plain_fin [.imm (pv (0) (0)), .fin, .imm (.int .i64 (42))] (b1) 0 (fun _ => pcs (0) (0)) (by kernel_rfl) (fun β => ?_) (fun β w12 hD => ?_)
  · refine Obs.cons (Ob.imm rfl (fun w => exec_build rfl (by kernel_rfl) (build_q0 w))) ?_
    refine Obs.cons (Ob.fin rfl (by rw [pcs_length]; exact ht_b1) rfl (by kernel_rfl) (by kernel_rfl) (by rw [pcs_length]; exact infoQ) (pcs_one _ _)) ?_
    refine Obs.cons (Ob.imm rfl (fun w => by kernel_rfl)) ?_
    exact Obs.nil
  replace hs3 := rangeAt_grown hs3 hD.gr
  replace hs10 := rangeAt_grown hs10 hD.gr
  replace ht_b0 := there_grown ht_b0 hD.gr
  replace ht_b1 := there_grown ht_b1 hD.gr
  replace ht_b2 := there_grown ht_b2 hD.gr
  replace ht_b3 := there_grown ht_b3 hD.gr
  replace ht_b4 := there_grown ht_b4 hD.gr
  replace ht_b5 := there_grown ht_b5 hD.gr
  replace hW := grown_trans hW hD.gr
  clear hD
  simp only [finAct, putAll, valsFrom, Plan.value, Act.put, List.setIfInBounds_toArray, List.set_cons_zero, List.set_cons_succ]
  replace hGl := hGl0.grown hW
  have hs12 := World.rangeAt_setCells_same w12 (b1) 0 (pcs (0) (0)) (by rw [pcs_length]; exact ht_b1)
  replace hW := grown_setCells hf_b1 (pcs (0) (0)) 0 hW
  generalize w12.setCells (b1) 0 (pcs (0) (0)) = w12s at *
  repeat go_step
  refine bodyPost_ret (v := .tuple #[pv (0) (0), .int .i64 (42)]) (result_cell_tmp Tryd.results36 _ _ (b1) _ (.int .i64 (42)) ?hp ?hv hs12 Tryd.underlying39 rfl (by rw [pcs_length]; exact infoQ)) ?hd ?_
  case hp => rfl
  case hv => rfl
  case hd => rfl
  exact ⟨rfl, hW⟩

set_option maxRecDepth 100000 in
set_option maxHeartbeats 2000000 in
theorem RD_odd (b : Nat) (hb : b < M) (hs : ¬ b < H) (hy : b % H < p) (hr : rok (uu (b % H)) (vv (b % H))) (h0 : ¬ rt (uu (b % H)) (vv (b % H)) = 0) (w : World) (hGl0 : GR w) :
    Calls Tryd.prog 36 #[bv b] w fun e w' => e = .returned (.tuple #[pv (ng (rt (uu (b % H)) (vv (b % H)))) (b % H), .int .i64 0]) ∧ Grown w w' := by
  have hW := Grown.refl w
  have hGl := hGl0
  go_enter Tryd.func36, Tryd.ntmps36
  repeat ((fail_if_success (with_reducible show Code.wp _ (Code.region _ _ _) _ _ _)); go_step)
  refine wp_plain [.box 23 (bl (b)), .new 39 64, .imm (.int .i64 (0))] (by kernel_rfl) (fun β => ?_) (fun β w1 hD => ?_)
  · refine Obs.cons (Ob.box rfl rfl (by kernel_rfl)) ?_
    refine Obs.cons (Ob.new _ rfl rfl zeroQ (by simp [pcs_length])) ?_
    refine Obs.cons (Ob.imm rfl (fun w => by kernel_rfl)) ?_
    exact Obs.nil
  obtain ⟨hf_b0, hr_b0⟩ := hD.bx 0 _ _ rfl
  have ht_b0 := there_boxB hr_b0 hf_b0 hD.gr
  replace hf_b0 := Nat.le_trans hW.2.2 hf_b0
  obtain ⟨hf_b1, ht_b1⟩ := hD.nw 1 _ _ rfl
  replace hf_b1 := Nat.le_trans hW.2.2 hf_b1
  have hn_b0_b1 := hD.ap 0 1 _ _ rfl rfl rfl rfl (by decide)
  replace hW := grown_trans hW hD.gr
  clear hD
  simp only [finAct, putAll, valsFrom, Plan.value, Act.put, List.setIfInBounds_toArray, List.set_cons_zero, List.set_cons_succ]
  replace hGl := hGl0.grown hW
  generalize β 0 = b0 at *
  generalize β (0 + 1) = b1 at *
  repeat ((fail_if_success (with_reducible show Code.wp _ (Code.region _ _ _) _ _ _)); go_step)
  refine wp_plain [.val (bv (b)), .val (.int .i64 (1)), .imm (.int .i64 (1))] (by kernel_rfl) (fun β => ?_) (fun β w2 hD => ?_)
  · refine Obs.cons (Ob.load (b0) 0 (bl (b)) rfl rfl (by kernel_rfl) hr_b0 Tryd.underlying23 rfl (by rw [bl_length]; exact info32)) ?_
    refine Obs.cons (Ob.call 66 #[bv (b), .int .i64 (255)] rfl (fun w => by kernel_rfl) (fun w hg => Bit_1 b hb hs w)) ?_
    refine Obs.cons (Ob.imm rfl (fun w => by kernel_rfl)) ?_
    exact Obs.nil
  replace hr_b0 := rangeAt_grown hr_b0 hD.gr
  replace ht_b0 := there_grown ht_b0 hD.gr
  replace ht_b1 := there_grown ht_b1 hD.gr
  replace hW := grown_trans hW hD.gr
  clear hD
  simp only [finAct, putAll, valsFrom, Plan.value, Act.put, List.setIfInBounds_toArray, List.set_cons_zero, List.set_cons_succ]
  replace hGl := hGl0.grown hW
  repeat ((fail_if_success (with_reducible show Code.wp _ (Code.region _ _ _) _ _ _)); go_step)
  refine wp_plain_fin [.imm (.pointer (some ⟨b0, 31, none⟩)), .val (.int .u8 (top (b) : Nat)), .imm (.int .u8 (top (b % H) : Nat)), .imm (.pointer (some ⟨b0, 31, none⟩)), .fin] (b0) 31 (fun _ => [.int .u8 (top (b % H) : Nat)]) (by kernel_rfl) (fun β => ?_) (fun β w3 hD => ?_)
  · refine Obs.cons (Ob.imm rfl (fun w => exec_idx 31 (by decide) rfl (by kernel_rfl) (by kernel_rfl))) ?_
    refine Obs.cons (Ob.load1 (b0) 31 rfl rfl (by kernel_rfl) (block_lt_of_cell (cell_top hr_b0)) (cell_top hr_b0) (fun w h => run_load8 w h)) ?_
    refine Obs.cons (Ob.imm rfl (fun w => exec_and8 (top (b)) (127) (top (b % H)) rfl (by kernel_rfl) (by kernel_rfl) (by rw [top_low]; exact and127 ⟨top b, top_lt b⟩))) ?_
    refine Obs.cons (Ob.imm rfl (fun w => exec_idx 31 (by decide) rfl (by kernel_rfl) (by kernel_rfl))) ?_
    refine Obs.cons (Ob.fin1 (.int .u8 (top (b % H) : Nat)) rfl rfl (there_31 ht_b0) rfl (by kernel_rfl) (by kernel_rfl) (fun w v0 h hf => run_store8 w v0 h hf)) ?_
    exact Obs.nil
  replace hr_b0 := rangeAt_grown hr_b0 hD.gr
  replace ht_b0 := there_grown ht_b0 hD.gr
  replace ht_b1 := there_grown ht_b1 hD.gr
  replace hW := grown_trans hW hD.gr
  clear hD
  simp only [finAct, putAll, valsFrom, Plan.value, Act.put, List.setIfInBounds_toArray, List.set_cons_zero, List.set_cons_succ]
  replace hGl := hGl0.grown hW
  have hs3 : (w3.setCells (b0) 31 [.int .u8 (top (b % H) : Nat)]).rangeAt (b0) 0 (bl (b % H)) := rangeAt_top hr_b0 (low_byte b)
  replace hW := grown_setCells hf_b0 [.int .u8 (top (b % H) : Nat)] 31 hW
  replace ht_b0 := World.there_setCells ht_b0 (b0) 31 [.int .u8 (top (b % H) : Nat)]
  replace ht_b1 := World.there_setCells ht_b1 (b0) 31 [.int .u8 (top (b % H) : Nat)]
  replace hGl := hGl0.grown hW
  generalize w3.setCells (b0) 31 [.int .u8 (top (b % H) : Nat)] = w3s at *
  repeat ((fail_if_success (with_reducible show Code.wp _ (Code.region _ _ _) _ _ _)); go_step)
  refine wp_plain [.val (bv (b % H)), .val (.bool true), .imm (.bool false)] (by kernel_rfl) (fun β => ?_) (fun β w4 hD => ?_)
  · refine Obs.cons (Ob.load (b0) 0 (bl (b % H)) rfl rfl (by kernel_rfl) hs3 Tryd.underlying23 rfl (by rw [bl_length]; exact info32)) ?_
    refine Obs.cons (Ob.call 67 #[bv (b % H)] rfl (fun w => by kernel_rfl) (fun w hg => canonR1 (b % H) (low_lt b) hy w)) ?_
    refine Obs.cons (Ob.imm rfl (fun w => by kernel_rfl)) ?_
    exact Obs.nil
  replace hs3 := rangeAt_grown hs3 hD.gr
  replace ht_b0 := there_grown ht_b0 hD.gr
  replace ht_b1 := there_grown ht_b1 hD.gr
  replace hW := grown_trans hW hD.gr
  clear hD
  simp only [finAct, putAll, valsFrom, Plan.value, Act.put, List.setIfInBounds_toArray, List.set_cons_zero, List.set_cons_succ]
  replace hGl := hGl0.grown hW
  repeat ((fail_if_success (with_reducible show Code.wp _ (Code.region _ _ _) _ _ _)); go_step)
  refine wp_plain [.val (bv (b % H)), .val (rn (b % H)), .new 77 17, .put 2 2 (fun _ => rl (d15 (b % H)))] (by kernel_rfl) (fun β => ?_) (fun β w5 hD => ?_)
  · refine Obs.cons (Ob.load (b0) 0 (bl (b % H)) rfl rfl (by kernel_rfl) hs3 Tryd.underlying23 rfl (by rw [bl_length]; exact info32)) ?_
    refine Obs.cons (Ob.call 63 #[bv (b % H)] rfl (fun w => by kernel_rfl) (fun w hg => read_y b w)) ?_
    refine Obs.cons (Ob.new _ rfl rfl zeroR (by simp [rl_length])) ?_
    refine Obs.cons (Ob.put 77 rfl rfl rfl (by kernel_rfl) (by kernel_rfl) (by rw [rl_length]; exact infoR) (rl_one _)) ?_
    exact Obs.nil
  have hn_b0_b2 := ne_of_fresh hs3 (hD.nw 2 _ _ rfl).1
  replace hs3 := rangeAt_grown hs3 hD.gr
  replace ht_b0 := there_grown ht_b0 hD.gr
  replace ht_b1 := there_grown ht_b1 hD.gr
  obtain ⟨hf_b2, ht_b2⟩ := hD.nw 2 _ _ rfl
  have hr_b2 : w5.rangeAt (β 2) 0 (rl (d15 (b % H))) := hD.rg 3 2 2 (fun _ => rl (d15 (b % H))) rfl
  replace hf_b2 := Nat.le_trans hW.2.2 hf_b2
  replace hW := grown_trans hW hD.gr
  clear hD
  simp only [finAct, putAll, valsFrom, Plan.value, Act.put, List.setIfInBounds_toArray, List.set_cons_zero, List.set_cons_succ]
  replace hGl := hGl0.grown hW
  generalize β (0 + 1 + 1) = b2 at *
  repeat ((fail_if_success (with_reducible show Code.wp _ (Code.region _ _ _) _ _ _)); go_step)
  refine wp_plain [.val (rn (b % H)), .val (rn (b % H)), .any (fun z => rn (z)) [] (fun l z => z < H ∧ z % p = (b % H) * (b % H) % p), .new 77 17, .put 3 2 (fun z => rl (d15 (z)))] (by kernel_rfl) (fun β => ?_) (fun β w6 hD => ?_)
  · refine Obs.cons (Ob.load (b2) 0 (rl (d15 (b % H))) rfl rfl (by kernel_rfl) hr_b2 Tryd.underlying77 rfl (by rw [rl_length]; exact infoR)) ?_
    refine Obs.cons (Ob.load (b2) 0 (rl (d15 (b % H))) rfl rfl (by kernel_rfl) hr_b2 Tryd.underlying77 rfl (by rw [rl_length]; exact infoR)) ?_
    refine Obs.cons (Ob.any 68 #[rn (b % H), rn (b % H)] rfl (fun w => by kernel_rfl) (fun hk w hg => times_r (b % H) (b % H) (mod_HH _) (mod_HH _) w)) ?_
    refine Obs.cons (Ob.new _ rfl rfl zeroR (by simp [rl_length])) ?_
    refine Obs.cons (Ob.put 77 rfl rfl rfl (by kernel_rfl) (by kernel_rfl) (by rw [rl_length]; exact infoR) (rl_one _)) ?_
    exact Obs.nil
  have hn_b0_b3 := ne_of_fresh hs3 (hD.nw 3 _ _ rfl).1
  have hn_b2_b3 := ne_of_freshR hr_b2 (hD.nw 3 _ _ rfl).1
  replace hs3 := rangeAt_grown hs3 hD.gr
  replace hr_b2 := rangeAt_grown hr_b2 hD.gr
  replace ht_b0 := there_grown ht_b0 hD.gr
  replace ht_b1 := there_grown ht_b1 hD.gr
  replace ht_b2 := there_grown ht_b2 hD.gr
  obtain ⟨hf_b3, ht_b3⟩ := hD.nw 3 _ _ rfl
  have hr_b3 : w6.rangeAt (β 3) 0 (rl (d15 (β 2))) := hD.rg 4 3 2 (fun z => rl (d15 (z))) rfl
  replace hf_b3 := Nat.le_trans hW.2.2 hf_b3
  have hz6_2 : (β 2) < H ∧ (β 2) % p = (b % H) * (b % H) % p := hD.an 2 _ _ _ rfl
  replace hW := grown_trans hW hD.gr
  clear hD
  simp only [finAct, putAll, valsFrom, Plan.value, Act.put, List.setIfInBounds_toArray, List.set_cons_zero, List.set_cons_succ]
  replace hGl := hGl0.grown hW
  generalize β (0 + 1 + 1 + 1) = b3 at *
  generalize β (0 + 1 + 1) = z6_2 at *
  have hq6_2 := Hid.of hz6_2.2
  replace hz6_2 := hz6_2.1
  repeat ((fail_if_success (with_reducible show Code.wp _ (Code.region _ _ _) _ _ _)); go_step)
  replace hs3 := rangeAt_grown hs3 (gdrew w6)
  replace hr_b2 := rangeAt_grown hr_b2 (gdrew w6)
  replace hr_b3 := rangeAt_grown hr_b3 (gdrew w6)
  replace ht_b0 := there_grown ht_b0 (gdrew w6)
  replace ht_b1 := there_grown ht_b1 (gdrew w6)
  replace ht_b2 := there_grown ht_b2 (gdrew w6)
  replace ht_b3 := there_grown ht_b3 (gdrew w6)
  replace hW := grown_trans hW (gdrew w6)
  replace hGl := hGl0.grown hW
  refine wp_loose [.val (bv (dd)), .val (rn (dd)), .val (rn (z6_2)), .any (fun z => rn (z)) [] (fun l z => z < H ∧ z % p = (dd) * (z6_2) % p), .val (rn (1)), .any (fun z => rn (z)) [3] (fun l z => z < H ∧ z % p = ((l.getD 0 0) + (1)) % p), .new 77 17, .put 6 5 (fun z => rl (d15 (z)))] (by kernel_rfl) (by kernel_rfl) (fun β => ?_) (fun β w7 hD => ?_)
  · refine Obs.cons (Ob.load (1) 0 (bl (dd)) rfl rfl (by kernel_rfl) hGl.rd Tryd.underlying23 rfl (by rw [bl_length]; exact info32)) ?_
    refine Obs.cons (Ob.call 63 #[bv (dd)] rfl (fun w => by kernel_rfl) (fun w hg => read_d w)) ?_
    refine Obs.cons (Ob.load (b3) 0 (rl (d15 (z6_2))) rfl rfl (by kernel_rfl) hr_b3 Tryd.underlying77 rfl (by rw [rl_length]; exact infoR)) ?_
    refine Obs.cons (Ob.any 68 #[rn (dd), rn (z6_2)] rfl (fun w => by kernel_rfl) (fun hk w hg => times_r (dd) (z6_2) dd_H hz6_2 w)) ?_
    refine Obs.cons (Ob.call 60 #[.int .i64 (1)] rfl (fun w => by kernel_rfl) (fun w hg => small_v 1 (by decide) 1 rfl w)) ?_
    refine Obs.cons (Ob.any 69 #[rn (β 3), rn (1)] rfl (fun w => by kernel_rfl) (fun hk w hg => plus_r (β 3) (1) (hk 3 _ _ _ rfl (bindsTo_spec (by kernel_rfl))).1 (by decide) w)) ?_
    refine Obs.cons (Ob.new _ rfl rfl zeroR (by simp [rl_length])) ?_
    refine Obs.cons (Ob.put 77 rfl rfl rfl (by kernel_rfl) (by kernel_rfl) (by rw [rl_length]; exact infoR) (rl_one _)) ?_
    exact Obs.nil
  have hn_b0_b4 := ne_of_fresh hs3 (hD.nw 6 _ _ rfl).1
  have hn_b2_b4 := ne_of_freshR hr_b2 (hD.nw 6 _ _ rfl).1
  have hn_b3_b4 := ne_of_freshR hr_b3 (hD.nw 6 _ _ rfl).1
  replace hs3 := rangeAt_grown hs3 hD.gr
  replace hr_b2 := rangeAt_grown hr_b2 hD.gr
  replace hr_b3 := rangeAt_grown hr_b3 hD.gr
  replace ht_b0 := there_grown ht_b0 hD.gr
  replace ht_b1 := there_grown ht_b1 hD.gr
  replace ht_b2 := there_grown ht_b2 hD.gr
  replace ht_b3 := there_grown ht_b3 hD.gr
  obtain ⟨hf_b4, ht_b4⟩ := hD.nw 6 _ _ rfl
  have hr_b4 : w7.rangeAt (β 6) 0 (rl (d15 (β 5))) := hD.rg 7 6 5 (fun z => rl (d15 (z))) rfl
  replace hf_b4 := Nat.le_trans hW.2.2 hf_b4
  have hz7_3 : (β 3) < H ∧ (β 3) % p = (dd) * (z6_2) % p := hD.an 3 _ _ _ rfl
  have hz7_5 : (β 5) < H ∧ (β 5) % p = ((β 3) + (1)) % p := hD.an 5 _ _ _ rfl
  replace hW := grown_trans hW hD.gr
  clear hD
  simp only [finAct, putAll, valsFrom, Plan.value, Act.put, List.setIfInBounds_toArray, List.set_cons_zero, List.set_cons_succ]
  replace hGl := hGl0.grown hW
  generalize β (0 + 1 + 1 + 1 + 1 + 1 + 1) = b4 at *
  generalize β (0 + 1 + 1 + 1) = z7_3 at *
  generalize β (0 + 1 + 1 + 1 + 1 + 1) = z7_5 at *
  have hq7_3 := Hid.of hz7_3.2
  replace hz7_3 := hz7_3.1
  have hq7_5 := Hid.of hz7_5.2
  replace hz7_5 := hz7_5.1
  repeat ((fail_if_success (with_reducible show Code.wp _ (Code.region _ _ _) _ _ _)); go_step)
  replace hs3 := rangeAt_grown hs3 (gdrew w7)
  replace hr_b2 := rangeAt_grown hr_b2 (gdrew w7)
  replace hr_b3 := rangeAt_grown hr_b3 (gdrew w7)
  replace hr_b4 := rangeAt_grown hr_b4 (gdrew w7)
  replace ht_b0 := there_grown ht_b0 (gdrew w7)
  replace ht_b1 := there_grown ht_b1 (gdrew w7)
  replace ht_b2 := there_grown ht_b2 (gdrew w7)
  replace ht_b3 := there_grown ht_b3 (gdrew w7)
  replace ht_b4 := there_grown ht_b4 (gdrew w7)
  replace hW := grown_trans hW (gdrew w7)
  replace hGl := hGl0.grown hW
  refine wp_loose [.val (rn (z6_2)), .val (rn (1)), .any (fun z => rn (z)) [] (fun l z => z < H ∧ z % p = sb (z6_2) (1)), .val (rn (z7_5)), .any (fun z => rn (z)) [] (fun l z => z < H ∧ z % p = inv (z7_5)), .any (fun z => rn (z)) [2, 4] (fun l z => z < H ∧ z % p = uu (b % H) * inv (vv (b % H)) % p), .any (fun z => .tuple #[rn (z), .bool true]) [5] (fun l z => z < H ∧ vv (b % H) * ((z % p) * (z % p)) % p = uu (b % H) % p), .any (fun z => .tuple #[rn (z), .bool true]) [6] (fun l b => b = l.getD 0 0), .any (fun z => rn (z)) [7] (fun l b => b = l.getD 0 0), .imm (.bool true), .new 77 17, .put 10 8 (fun z => rl (d15 (z))), .imm (.bool true)] (by kernel_rfl) (by kernel_rfl) (fun β => ?_) (fun β w8 hD => ?_)
  · refine Obs.cons (Ob.load (b3) 0 (rl (d15 (z6_2))) rfl rfl (by kernel_rfl) hr_b3 Tryd.underlying77 rfl (by rw [rl_length]; exact infoR)) ?_
    refine Obs.cons (Ob.call 60 #[.int .i64 (1)] rfl (fun w => by kernel_rfl) (fun w hg => small_v 1 (by decide) 1 rfl w)) ?_
    refine Obs.cons (Ob.any 71 #[rn (z6_2), rn (1)] rfl (fun w => by kernel_rfl) (fun hk w hg => minus_r (z6_2) (1) hz6_2 (by decide) w)) ?_
    refine Obs.cons (Ob.load (b4) 0 (rl (d15 (z7_5))) rfl rfl (by kernel_rfl) hr_b4 Tryd.underlying77 rfl (by rw [rl_length]; exact infoR)) ?_
    refine Obs.cons (Ob.any 72 #[rn (z7_5)] rfl (fun w => by kernel_rfl) (fun hk w hg => inverse_r (z7_5) hz7_5 w)) ?_
    refine Obs.cons (Ob.any 68 #[rn (β 2), rn (β 4)] rfl (fun w => by kernel_rfl) (fun hk w hg => (times_r (β 2) (β 4) (hk 2 _ _ _ rfl (bindsTo_spec (by kernel_rfl))).1 (hk 4 _ _ _ rfl (bindsTo_spec (by kernel_rfl))).1 w).mono fun _ _ ⟨⟨z, h1, h2, h3⟩, h4⟩ => ⟨⟨z, h1, h2, arg_root hq6_2.out hq7_3.out hq7_5.out (hk 2 _ _ _ rfl (bindsTo_spec (by kernel_rfl))).2 (hk 4 _ _ _ rfl (bindsTo_spec (by kernel_rfl))).2 h3⟩, h4⟩)) ?_
    refine Obs.cons (Ob.any 70 #[rn (β 5)] rfl (fun w => by kernel_rfl) (fun hk w hg => (root_yes (β 5) (hk 5 _ _ _ rfl (bindsTo_spec (by kernel_rfl))).1 ((sqr_rok (vv_ne _) (hk 5 _ _ _ rfl (bindsTo_spec (by kernel_rfl))).2).2 hr) w).mono fun _ _ ⟨⟨z, h1, h2, h3⟩, h4⟩ => ⟨⟨z, h1, h2, root_of_sq (vv_ne _) (hk 5 _ _ _ rfl (bindsTo_spec (by kernel_rfl))).2 h3⟩, h4⟩)) ?_
    refine Obs.cons (Ob.der (β 6) rfl (fun _ w => by kernel_rfl) (fun _ => rfl)) ?_
    refine Obs.cons (Ob.der (β 7) rfl (fun _ w => by kernel_rfl) (fun _ => rfl)) ?_
    refine Obs.cons (Ob.imm rfl (fun w => by kernel_rfl)) ?_
    refine Obs.cons (Ob.new _ rfl rfl zeroR (by simp [rl_length])) ?_
    refine Obs.cons (Ob.put 77 rfl rfl rfl (by kernel_rfl) (by kernel_rfl) (by rw [rl_length]; exact infoR) (rl_one _)) ?_
    refine Obs.cons (Ob.imm rfl (fun w => by kernel_rfl)) ?_
    exact Obs.nil
  have hn_b0_b5 := ne_of_fresh hs3 (hD.nw 10 _ _ rfl).1
  have hn_b2_b5 := ne_of_freshR hr_b2 (hD.nw 10 _ _ rfl).1
  have hn_b3_b5 := ne_of_freshR hr_b3 (hD.nw 10 _ _ rfl).1
  have hn_b4_b5 := ne_of_freshR hr_b4 (hD.nw 10 _ _ rfl).1
  replace hs3 := rangeAt_grown hs3 hD.gr
  replace hr_b2 := rangeAt_grown hr_b2 hD.gr
  replace hr_b3 := rangeAt_grown hr_b3 hD.gr
  replace hr_b4 := rangeAt_grown hr_b4 hD.gr
  replace ht_b0 := there_grown ht_b0 hD.gr
  replace ht_b1 := there_grown ht_b1 hD.gr
  replace ht_b2 := there_grown ht_b2 hD.gr
  replace ht_b3 := there_grown ht_b3 hD.gr
  replace ht_b4 := there_grown ht_b4 hD.gr
  obtain ⟨hf_b5, ht_b5⟩ := hD.nw 10 _ _ rfl
  have hr_b5 : w8.rangeAt (β 10) 0 (rl (d15 (β 8))) := hD.rg 11 10 8 (fun z => rl (d15 (z))) rfl
  replace hf_b5 := Nat.le_trans hW.2.2 hf_b5
  have hz8_2 : (β 2) < H ∧ (β 2) % p = sb (z6_2) (1) := hD.an 2 _ _ _ rfl
  have hz8_4 : (β 4) < H ∧ (β 4) % p = inv (z7_5) := hD.an 4 _ _ _ rfl
  have hz8_5 : (β 5) < H ∧ (β 5) % p = uu (b % H) * inv (vv (b % H)) % p := hD.an 5 _ _ _ rfl
  have hz8_6 : (β 6) < H ∧ vv (b % H) * (((β 6) % p) * ((β 6) % p)) % p = uu (b % H) % p := hD.an 6 _ _ _ rfl
  have hz8_7 : β 6 = β 7 := (hD.an 7 _ _ _ rfl : β 7 = β 6).symm
  have hz8_8 : β 7 = β 8 := (hD.an 8 _ _ _ rfl : β 8 = β 7).symm
  replace hW := grown_trans hW hD.gr
  clear hD
  simp only [finAct, putAll, valsFrom, Plan.value, Act.put, List.setIfInBounds_toArray, List.set_cons_zero, List.set_cons_succ]
  replace hGl := hGl0.grown hW
  generalize β (0 + 1 + 1 + 1 + 1 + 1 + 1 + 1 + 1 + 1 + 1) = b5 at *
  generalize β (0 + 1 + 1) = z8_2 at *
  generalize β (0 + 1 + 1 + 1 + 1) = z8_4 at *
  generalize β (0 + 1 + 1 + 1 + 1 + 1) = z8_5 at *
  generalize β (0 + 1 + 1 + 1 + 1 + 1 + 1) = z8_6 at *
  generalize β (0 + 1 + 1 + 1 + 1 + 1 + 1 + 1) = z8_7 at *
  generalize β (0 + 1 + 1 + 1 + 1 + 1 + 1 + 1 + 1) = z8_8 at *
  subst hz8_7
  subst hz8_8
  have hq8_2 := Hid.of hz8_2.2
  replace hz8_2 := hz8_2.1
  have hq8_4 := Hid.of hz8_4.2
  replace hz8_4 := hz8_4.1
  have hq8_5 := Hid.of hz8_5.2
  replace hz8_5 := hz8_5.1
  have hq8_6 := Hid.of hz8_6.2
  replace hz8_6 := hz8_6.1
  repeat ((fail_if_success (with_reducible show Code.wp _ (Code.region _ _ _) _ _ _)); go_step)
  refine wp_plain [.imm (.bool true), .imm (.bool false)] (by kernel_rfl) (fun β => ?_) (fun β w9 hD => ?_)
  · refine Obs.cons (Ob.imm rfl (fun w => by kernel_rfl)) ?_
    refine Obs.cons (Ob.imm rfl (fun w => by kernel_rfl)) ?_
    exact Obs.nil
  replace hs3 := rangeAt_grown hs3 hD.gr
  replace hr_b2 := rangeAt_grown hr_b2 hD.gr
  replace hr_b3 := rangeAt_grown hr_b3 hD.gr
  replace hr_b4 := rangeAt_grown hr_b4 hD.gr
  replace hr_b5 := rangeAt_grown hr_b5 hD.gr
  replace ht_b0 := there_grown ht_b0 hD.gr
  replace ht_b1 := there_grown ht_b1 hD.gr
  replace ht_b2 := there_grown ht_b2 hD.gr
  replace ht_b3 := there_grown ht_b3 hD.gr
  replace ht_b4 := there_grown ht_b4 hD.gr
  replace ht_b5 := there_grown ht_b5 hD.gr
  replace hW := grown_trans hW hD.gr
  clear hD
  simp only [finAct, putAll, valsFrom, Plan.value, Act.put, List.setIfInBounds_toArray, List.set_cons_zero, List.set_cons_succ]
  replace hGl := hGl0.grown hW
  repeat ((fail_if_success (with_reducible show Code.wp _ (Code.region _ _ _) _ _ _)); go_step)
  have hro := Hid.of (two_roots (vv_ne _) hq8_6.out (Nat.mod_lt _ p_pos))
  clear hq6_2 hq7_3 hq7_5 hq8_2 hq8_4 hq8_5 hq8_6
  refine wp_plain_fin [.val (rn (z8_6)), .val (rn ((z8_6) % p)), .fin] (b5) 0 (fun _ => rl (d15 ((z8_6) % p))) (by kernel_rfl) (fun β => ?_) (fun β w10 hD => ?_)
  · refine Obs.cons (Ob.load (b5) 0 (rl (d15 (z8_6))) rfl rfl (by kernel_rfl) hr_b5 Tryd.underlying77 rfl (by rw [rl_length]; exact infoR)) ?_
    refine Obs.cons (Ob.call 73 #[rn (z8_6)] rfl (fun w => by kernel_rfl) (fun w hg => least_r (z8_6) hz8_6 w)) ?_
    refine Obs.cons (Ob.fin rfl (by rw [rl_length]; exact ht_b5) rfl (by kernel_rfl) (by kernel_rfl) (by rw [rl_length]; exact infoR) (rl_one _)) ?_
    exact Obs.nil
  replace hs3 := rangeAt_grown hs3 hD.gr
  replace hr_b2 := rangeAt_grown hr_b2 hD.gr
  replace hr_b3 := rangeAt_grown hr_b3 hD.gr
  replace hr_b4 := rangeAt_grown hr_b4 hD.gr
  replace hr_b5 := rangeAt_grown hr_b5 hD.gr
  replace ht_b0 := there_grown ht_b0 hD.gr
  replace ht_b1 := there_grown ht_b1 hD.gr
  replace ht_b2 := there_grown ht_b2 hD.gr
  replace ht_b3 := there_grown ht_b3 hD.gr
  replace ht_b4 := there_grown ht_b4 hD.gr
  replace ht_b5 := there_grown ht_b5 hD.gr
  replace hW := grown_trans hW hD.gr
  clear hD
  simp only [finAct, putAll, valsFrom, Plan.value, Act.put, List.setIfInBounds_toArray, List.set_cons_zero, List.set_cons_succ]
  replace hGl := hGl0.grown hW
  have hs10 := World.rangeAt_setCells_same w10 (b5) 0 (rl (d15 ((z8_6) % p))) (by rw [rl_length]; exact ht_b5)
  replace hW := grown_setCells hf_b5 (rl (d15 ((z8_6) % p))) 0 hW
  replace hs3 := World.rangeAt_setCells_apart hs3 (b5) 0 (rl (d15 ((z8_6) % p))) (.inl (hn_b0_b5))
  replace ht_b0 := World.there_setCells ht_b0 (b5) 0 (rl (d15 ((z8_6) % p)))
  replace ht_b1 := World.there_setCells ht_b1 (b5) 0 (rl (d15 ((z8_6) % p)))
  replace ht_b2 := World.there_setCells ht_b2 (b5) 0 (rl (d15 ((z8_6) % p)))
  replace ht_b3 := World.there_setCells ht_b3 (b5) 0 (rl (d15 ((z8_6) % p)))
  replace ht_b4 := World.there_setCells ht_b4 (b5) 0 (rl (d15 ((z8_6) % p)))
  replace ht_b5 := World.there_setCells ht_b5 (b5) 0 (rl (d15 ((z8_6) % p)))
  replace hGl := hGl0.grown hW
  generalize w10.setCells (b5) 0 (rl (d15 ((z8_6) % p))) = w10s at *
  repeat ((fail_if_success (with_reducible show Code.wp _ (Code.region _ _ _) _ _ _)); go_step)
  have hx0 := x_ne hro.out (rt_root hr).1 h0
  replace hx0 := Hid.of hx0
  replace hs3 := rangeAt_grown hs3 (gdrew w10s)
  replace hs10 := rangeAt_grown hs10 (gdrew w10s)
  replace ht_b0 := there_grown ht_b0 (gdrew w10s)
  replace ht_b1 := there_grown ht_b1 (gdrew w10s)
  replace ht_b2 := there_grown ht_b2 (gdrew w10s)
  replace ht_b3 := there_grown ht_b3 (gdrew w10s)
  replace ht_b4 := there_grown ht_b4 (gdrew w10s)
  replace ht_b5 := there_grown ht_b5 (gdrew w10s)
  replace hW := grown_trans hW (gdrew w10s)
  replace hGl := hGl0.grown hW
  refine wp_loose [.val (rn ((z8_6) % p)), .val (rn (0)), .imm (.bool false), .imm (.bool false), .skip, .skip, .imm (.bool false)] (by kernel_rfl) (by kernel_rfl) (fun β => ?_) (fun β w11 hD => ?_)
  · refine Obs.cons (Ob.load (b5) 0 (rl (d15 ((z8_6) % p))) rfl rfl (by kernel_rfl) hs10 Tryd.underlying77 rfl (by rw [rl_length]; exact infoR)) ?_
    refine Obs.cons (Ob.call 60 #[.int .i64 (0)] rfl (fun w => by kernel_rfl) (fun w hg => small_v 0 (by decide) 0 rfl w)) ?_
    refine Obs.cons (Ob.imm rfl (fun w => exec_eqlR rfl ((z8_6) % p) (0) (by kernel_rfl) (by kernel_rfl) (mod_H _) (by decide) false (decide_eq_false hx0.out) w)) ?_
    refine Obs.cons (Ob.imm rfl (fun w => by kernel_rfl)) ?_
    refine Obs.cons (Ob.skip (by kernel_rfl)) ?_
    refine Obs.cons (Ob.skip (by kernel_rfl)) ?_
    refine Obs.cons (Ob.imm rfl (fun w => by kernel_rfl)) ?_
    exact Obs.nil
  replace hs3 := rangeAt_grown hs3 hD.gr
  replace hs10 := rangeAt_grown hs10 hD.gr
  replace ht_b0 := there_grown ht_b0 hD.gr
  replace ht_b1 := there_grown ht_b1 hD.gr
  replace ht_b2 := there_grown ht_b2 hD.gr
  replace ht_b3 := there_grown ht_b3 hD.gr
  replace ht_b4 := there_grown ht_b4 hD.gr
  replace ht_b5 := there_grown ht_b5 hD.gr
  replace hW := grown_trans hW hD.gr
  clear hD
  simp only [finAct, putAll, valsFrom, Plan.value, Act.put, List.setIfInBounds_toArray, List.set_cons_zero, List.set_cons_succ]
  replace hGl := hGl0.grown hW
  repeat ((fail_if_success (with_reducible show Code.wp _ (Code.region _ _ _) _ _ _)); go_step)
  by_cases hp0 : (z8_6) % p % 2 = 1
  · have hpar := Hid.of hp0
    clear hp0
    refine wp_plain [.imm (.pointer (some ⟨b5, 0, none⟩)), .val (.int .i64 (d15 ((z8_6) % p) 0)), .imm (.int .i64 (1)), .imm (.int .i64 (1)), .imm (.bool false)] (by kernel_rfl) (fun β => ?_) (fun β w12 hD => ?_)
    · refine Obs.cons (Ob.imm rfl (fun w => exec_idxR 0 (by decide) rfl (by kernel_rfl) (by kernel_rfl))) ?_
      refine Obs.cons (Ob.load1 (b5) 0 rfl rfl (by kernel_rfl) (block_lt_of_cell (cell_r hs10 (j := 0) (by decide))) (cell_r hs10 (by decide)) (fun w h => run_loadI w h)) ?_
      refine Obs.cons (Ob.imm rfl (fun w => exec_par ((z8_6) % p) 1 rfl (by kernel_rfl) (by kernel_rfl) hpar.out)) ?_
      refine Obs.cons (Ob.imm rfl (fun w => by kernel_rfl)) ?_
      refine Obs.cons (Ob.imm rfl (fun w => by kernel_rfl)) ?_
      exact Obs.nil
    replace hs3 := rangeAt_grown hs3 hD.gr
    replace hs10 := rangeAt_grown hs10 hD.gr
    replace ht_b0 := there_grown ht_b0 hD.gr
    replace ht_b1 := there_grown ht_b1 hD.gr
    replace ht_b2 := there_grown ht_b2 hD.gr
    replace ht_b3 := there_grown ht_b3 hD.gr
    replace ht_b4 := there_grown ht_b4 hD.gr
    replace ht_b5 := there_grown ht_b5 hD.gr
    replace hW := grown_trans hW hD.gr
    clear hD
    simp only [finAct, putAll, valsFrom, Plan.value, Act.put, List.setIfInBounds_toArray, List.set_cons_zero, List.set_cons_succ]
    replace hGl := hGl0.grown hW
    repeat ((fail_if_success (with_reducible show Code.wp _ (Code.region _ _ _) _ _ _)); go_step)
    replace hs3 := rangeAt_grown hs3 (gdrew w12)
    replace hs10 := rangeAt_grown hs10 (gdrew w12)
    replace ht_b0 := there_grown ht_b0 (gdrew w12)
    replace ht_b1 := there_grown ht_b1 (gdrew w12)
    replace ht_b2 := there_grown ht_b2 (gdrew w12)
    replace ht_b3 := there_grown ht_b3 (gdrew w12)
    replace ht_b4 := there_grown ht_b4 (gdrew w12)
    replace ht_b5 := there_grown ht_b5 (gdrew w12)
    replace hW := grown_trans hW (gdrew w12)
    replace hGl := hGl0.grown hW
    refine wp_loose_fin [.val (rn ((z8_6) % p)), .val (bv (((z8_6) % p) % p)), .val (bv (b % H)), .imm (pv (((z8_6) % p) % p) (b % H)), .fin, .imm (.int .i64 (0))] (b1) 0 (fun _ => pcs (((z8_6) % p) % p) (b % H)) (by kernel_rfl) (by kernel_rfl) (fun β => ?_) (fun β w13 hD => ?_)
    · refine Obs.cons (Ob.load (b5) 0 (rl (d15 ((z8_6) % p))) rfl rfl (by kernel_rfl) hs10 Tryd.underlying77 rfl (by rw [rl_length]; exact infoR)) ?_
      refine Obs.cons (Ob.call 74 #[rn ((z8_6) % p)] rfl (fun w => by kernel_rfl) (fun w hg => written_r ((z8_6) % p) (mod_H _) w)) ?_
      refine Obs.cons (Ob.load (b0) 0 (bl (b % H)) rfl rfl (by kernel_rfl) hs3 Tryd.underlying23 rfl (by rw [bl_length]; exact info32)) ?_
      refine Obs.cons (Ob.imm rfl (fun w => exec_build rfl (by kernel_rfl) (build_q _ _ w))) ?_
      refine Obs.cons (Ob.fin rfl (by rw [pcs_length]; exact ht_b1) rfl (by kernel_rfl) (by kernel_rfl) (by rw [pcs_length]; exact infoQ) (pcs_one _ _)) ?_
      refine Obs.cons (Ob.imm rfl (fun w => by kernel_rfl)) ?_
      exact Obs.nil
    replace hs3 := rangeAt_grown hs3 hD.gr
    replace hs10 := rangeAt_grown hs10 hD.gr
    replace ht_b0 := there_grown ht_b0 hD.gr
    replace ht_b1 := there_grown ht_b1 hD.gr
    replace ht_b2 := there_grown ht_b2 hD.gr
    replace ht_b3 := there_grown ht_b3 hD.gr
    replace ht_b4 := there_grown ht_b4 hD.gr
    replace ht_b5 := there_grown ht_b5 hD.gr
    replace hW := grown_trans hW hD.gr
    clear hD
    simp only [finAct, putAll, valsFrom, Plan.value, Act.put, List.setIfInBounds_toArray, List.set_cons_zero, List.set_cons_succ]
    replace hGl := hGl0.grown hW
    have hs13 := World.rangeAt_setCells_same w13 (b1) 0 (pcs (((z8_6) % p) % p) (b % H)) (by rw [pcs_length]; exact ht_b1)
    replace hW := grown_setCells hf_b1 (pcs (((z8_6) % p) % p) (b % H)) 0 hW
    generalize w13.setCells (b1) 0 (pcs (((z8_6) % p) % p) (b % H)) = w13s at *
    repeat go_step
    refine bodyPost_ret (v := .tuple #[pv (((z8_6) % p) % p) (b % H), .int .i64 (0)]) (result_cell_tmp Tryd.results36 _ _ (b1) _ (.int .i64 (0)) ?hp ?hv hs13 Tryd.underlying39 rfl (by rw [pcs_length]; exact infoQ)) ?hd ?_
    case hp => rfl
    case hv => rfl
    case hd => rfl
    have hfin : ((z8_6) % p) % p = ng (rt (uu (b % H)) (vv (b % H))) := (mm _).trans (f_odd_keep hro.out (rt_root hr).2.1 hpar.out)
    exact ⟨by rw [hfin], hW⟩
  · have hpar := Hid.of hp0
    clear hp0
    refine wp_plain [.imm (.pointer (some ⟨b5, 0, none⟩)), .val (.int .i64 (d15 ((z8_6) % p) 0)), .imm (.int .i64 (0)), .imm (.int .i64 (1)), .imm (.bool true)] (by kernel_rfl) (fun β => ?_) (fun β w12 hD => ?_)
    · refine Obs.cons (Ob.imm rfl (fun w => exec_idxR 0 (by decide) rfl (by kernel_rfl) (by kernel_rfl))) ?_
      refine Obs.cons (Ob.load1 (b5) 0 rfl rfl (by kernel_rfl) (block_lt_of_cell (cell_r hs10 (j := 0) (by decide))) (cell_r hs10 (by decide)) (fun w h => run_loadI w h)) ?_
      refine Obs.cons (Ob.imm rfl (fun w => exec_par ((z8_6) % p) 0 rfl (by kernel_rfl) (by kernel_rfl) (by have := hpar.out; omega))) ?_
      refine Obs.cons (Ob.imm rfl (fun w => by kernel_rfl)) ?_
      refine Obs.cons (Ob.imm rfl (fun w => by kernel_rfl)) ?_
      exact Obs.nil
    replace hs3 := rangeAt_grown hs3 hD.gr
    replace hs10 := rangeAt_grown hs10 hD.gr
    replace ht_b0 := there_grown ht_b0 hD.gr
    replace ht_b1 := there_grown ht_b1 hD.gr
    replace ht_b2 := there_grown ht_b2 hD.gr
    replace ht_b3 := there_grown ht_b3 hD.gr
    replace ht_b4 := there_grown ht_b4 hD.gr
    replace ht_b5 := there_grown ht_b5 hD.gr
    replace hW := grown_trans hW hD.gr
    clear hD
    simp only [finAct, putAll, valsFrom, Plan.value, Act.put, List.setIfInBounds_toArray, List.set_cons_zero, List.set_cons_succ]
    replace hGl := hGl0.grown hW
    repeat ((fail_if_success (with_reducible show Code.wp _ (Code.region _ _ _) _ _ _)); go_step)
    replace hs3 := rangeAt_grown hs3 (gdrew w12)
    replace hs10 := rangeAt_grown hs10 (gdrew w12)
    replace ht_b0 := there_grown ht_b0 (gdrew w12)
    replace ht_b1 := there_grown ht_b1 (gdrew w12)
    replace ht_b2 := there_grown ht_b2 (gdrew w12)
    replace ht_b3 := there_grown ht_b3 (gdrew w12)
    replace ht_b4 := there_grown ht_b4 (gdrew w12)
    replace ht_b5 := there_grown ht_b5 (gdrew w12)
    replace hW := grown_trans hW (gdrew w12)
    replace hGl := hGl0.grown hW
    refine wp_loose_fin [.val (rn (0)), .val (rn ((z8_6) % p)), .any (fun z => rn (z)) [] (fun l z => z < H ∧ z % p = sb (0) ((z8_6) % p)), .fin] (b5) 0 (fun β => rl (d15 (β 2))) (by kernel_rfl) (by kernel_rfl) (fun β => ?_) (fun β w13 hD => ?_)
    · refine Obs.cons (Ob.call 60 #[.int .i64 (0)] rfl (fun w => by kernel_rfl) (fun w hg => small_v 0 (by decide) 0 rfl w)) ?_
      refine Obs.cons (Ob.load (b5) 0 (rl (d15 ((z8_6) % p))) rfl rfl (by kernel_rfl) hs10 Tryd.underlying77 rfl (by rw [rl_length]; exact infoR)) ?_
      refine Obs.cons (Ob.any 71 #[rn (0), rn ((z8_6) % p)] rfl (fun w => by kernel_rfl) (fun hk w hg => minus_r (0) ((z8_6) % p) (by decide) (mod_H _) w)) ?_
      refine Obs.cons (Ob.fin rfl (by rw [rl_length]; exact ht_b5) rfl (by kernel_rfl) (by kernel_rfl) (by rw [rl_length]; exact infoR) (rl_one _)) ?_
      exact Obs.nil
    replace hs3 := rangeAt_grown hs3 hD.gr
    replace hs10 := rangeAt_grown hs10 hD.gr
    replace ht_b0 := there_grown ht_b0 hD.gr
    replace ht_b1 := there_grown ht_b1 hD.gr
    replace ht_b2 := there_grown ht_b2 hD.gr
    replace ht_b3 := there_grown ht_b3 hD.gr
    replace ht_b4 := there_grown ht_b4 hD.gr
    replace ht_b5 := there_grown ht_b5 hD.gr
    have hz13_2 : (β 2) < H ∧ (β 2) % p = sb (0) ((z8_6) % p) := hD.an 2 _ _ _ rfl
    replace hW := grown_trans hW hD.gr
    clear hD
    simp only [finAct, putAll, valsFrom, Plan.value, Act.put, List.setIfInBounds_toArray, List.set_cons_zero, List.set_cons_succ]
    replace hGl := hGl0.grown hW
    generalize β (0 + 1 + 1) = z13_2 at *
    have hq13_2 := Hid.of hz13_2.2
    replace hz13_2 := hz13_2.1
    have hs13 := World.rangeAt_setCells_same w13 (b5) 0 (rl (d15 (z13_2))) (by rw [rl_length]; exact ht_b5)
    replace hW := grown_setCells hf_b5 (rl (d15 (z13_2))) 0 hW
    replace hs3 := World.rangeAt_setCells_apart hs3 (b5) 0 (rl (d15 (z13_2))) (.inl (hn_b0_b5))
    replace ht_b0 := World.there_setCells ht_b0 (b5) 0 (rl (d15 (z13_2)))
    replace ht_b1 := World.there_setCells ht_b1 (b5) 0 (rl (d15 (z13_2)))
    replace ht_b2 := World.there_setCells ht_b2 (b5) 0 (rl (d15 (z13_2)))
    replace ht_b3 := World.there_setCells ht_b3 (b5) 0 (rl (d15 (z13_2)))
    replace ht_b4 := World.there_setCells ht_b4 (b5) 0 (rl (d15 (z13_2)))
    replace ht_b5 := World.there_setCells ht_b5 (b5) 0 (rl (d15 (z13_2)))
    replace hGl := hGl0.grown hW
    generalize w13.setCells (b5) 0 (rl (d15 (z13_2))) = w13s at *
    repeat ((fail_if_success (with_reducible show Code.wp _ (Code.region _ _ _) _ _ _)); go_step)
    replace hs3 := rangeAt_grown hs3 (gdrew w13s)
    replace hs13 := rangeAt_grown hs13 (gdrew w13s)
    replace ht_b0 := there_grown ht_b0 (gdrew w13s)
    replace ht_b1 := there_grown ht_b1 (gdrew w13s)
    replace ht_b2 := there_grown ht_b2 (gdrew w13s)
    replace ht_b3 := there_grown ht_b3 (gdrew w13s)
    replace ht_b4 := there_grown ht_b4 (gdrew w13s)
    replace ht_b5 := there_grown ht_b5 (gdrew w13s)
    replace hW := grown_trans hW (gdrew w13s)
    replace hGl := hGl0.grown hW
    refine wp_loose_fin [.val (rn (z13_2)), .val (bv ((z13_2) % p)), .val (bv (b % H)), .imm (pv ((z13_2) % p) (b % H)), .fin, .imm (.int .i64 (0))] (b1) 0 (fun _ => pcs ((z13_2) % p) (b % H)) (by kernel_rfl) (by kernel_rfl) (fun β => ?_) (fun β w14 hD => ?_)
    · refine Obs.cons (Ob.load (b5) 0 (rl (d15 (z13_2))) rfl rfl (by kernel_rfl) hs13 Tryd.underlying77 rfl (by rw [rl_length]; exact infoR)) ?_
      refine Obs.cons (Ob.call 74 #[rn (z13_2)] rfl (fun w => by kernel_rfl) (fun w hg => written_r (z13_2) hz13_2 w)) ?_
      refine Obs.cons (Ob.load (b0) 0 (bl (b % H)) rfl rfl (by kernel_rfl) hs3 Tryd.underlying23 rfl (by rw [bl_length]; exact info32)) ?_
      refine Obs.cons (Ob.imm rfl (fun w => exec_build rfl (by kernel_rfl) (build_q _ _ w))) ?_
      refine Obs.cons (Ob.fin rfl (by rw [pcs_length]; exact ht_b1) rfl (by kernel_rfl) (by kernel_rfl) (by rw [pcs_length]; exact infoQ) (pcs_one _ _)) ?_
      refine Obs.cons (Ob.imm rfl (fun w => by kernel_rfl)) ?_
      exact Obs.nil
    replace hs3 := rangeAt_grown hs3 hD.gr
    replace hs13 := rangeAt_grown hs13 hD.gr
    replace ht_b0 := there_grown ht_b0 hD.gr
    replace ht_b1 := there_grown ht_b1 hD.gr
    replace ht_b2 := there_grown ht_b2 hD.gr
    replace ht_b3 := there_grown ht_b3 hD.gr
    replace ht_b4 := there_grown ht_b4 hD.gr
    replace ht_b5 := there_grown ht_b5 hD.gr
    replace hW := grown_trans hW hD.gr
    clear hD
    simp only [finAct, putAll, valsFrom, Plan.value, Act.put, List.setIfInBounds_toArray, List.set_cons_zero, List.set_cons_succ]
    replace hGl := hGl0.grown hW
    have hs14 := World.rangeAt_setCells_same w14 (b1) 0 (pcs ((z13_2) % p) (b % H)) (by rw [pcs_length]; exact ht_b1)
    replace hW := grown_setCells hf_b1 (pcs ((z13_2) % p) (b % H)) 0 hW
    generalize w14.setCells (b1) 0 (pcs ((z13_2) % p) (b % H)) = w14s at *
    repeat go_step
    refine bodyPost_ret (v := .tuple #[pv ((z13_2) % p) (b % H), .int .i64 (0)]) (result_cell_tmp Tryd.results36 _ _ (b1) _ (.int .i64 (0)) ?hp ?hv hs14 Tryd.underlying39 rfl (by rw [pcs_length]; exact infoQ)) ?hd ?_
    case hp => rfl
    case hv => rfl
    case hd => rfl
    have hfin : (z13_2) % p = ng (rt (uu (b % H)) (vv (b % H))) := hq13_2.out.trans (f_odd_neg hro.out (rt_root hr).1 (rt_root hr).2.1 h0 hpar.out)
    exact ⟨by rw [hfin], hW⟩

set_option maxRecDepth 100000 in
set_option maxHeartbeats 2000000 in
theorem RD_even0 (b : Nat) (_hb : b < M) (hs :  b < H) (hy : b % H < p) (hr : rok (uu (b % H)) (vv (b % H))) (h0 : rt (uu (b % H)) (vv (b % H)) = 0) (w : World) (hGl0 : GR w) :
    Calls Tryd.prog 36 #[bv b] w fun e w' => e = .returned (.tuple #[pv (rt (uu (b % H)) (vv (b % H))) (b % H), .int .i64 0]) ∧ Grown w w' := by
  have hW := Grown.refl w
  have hGl := hGl0
  go_enter Tryd.func36, Tryd.ntmps36
  repeat ((fail_if_success (with_reducible show Code.wp _ (Code.region _ _ _) _ _ _)); go_step)
  refine wp_plain [.box 23 (bl (b)), .new 39 64, .imm (.int .i64 (0))] (by kernel_rfl) (fun β => ?_) (fun β w1 hD => ?_)
  · refine Obs.cons (Ob.box rfl rfl (by kernel_rfl)) ?_
    refine Obs.cons (Ob.new _ rfl rfl zeroQ (by simp [pcs_length])) ?_
    refine Obs.cons (Ob.imm rfl (fun w => by kernel_rfl)) ?_
    exact Obs.nil
  obtain ⟨hf_b0, hr_b0⟩ := hD.bx 0 _ _ rfl
  have ht_b0 := there_boxB hr_b0 hf_b0 hD.gr
  replace hf_b0 := Nat.le_trans hW.2.2 hf_b0
  obtain ⟨hf_b1, ht_b1⟩ := hD.nw 1 _ _ rfl
  replace hf_b1 := Nat.le_trans hW.2.2 hf_b1
  have hn_b0_b1 := hD.ap 0 1 _ _ rfl rfl rfl rfl (by decide)
  replace hW := grown_trans hW hD.gr
  clear hD
  simp only [finAct, putAll, valsFrom, Plan.value, Act.put, List.setIfInBounds_toArray, List.set_cons_zero, List.set_cons_succ]
  replace hGl := hGl0.grown hW
  generalize β 0 = b0 at *
  generalize β (0 + 1) = b1 at *
  repeat ((fail_if_success (with_reducible show Code.wp _ (Code.region _ _ _) _ _ _)); go_step)
  refine wp_plain [.val (bv (b)), .val (.int .i64 (0)), .imm (.int .i64 (0))] (by kernel_rfl) (fun β => ?_) (fun β w2 hD => ?_)
  · refine Obs.cons (Ob.load (b0) 0 (bl (b)) rfl rfl (by kernel_rfl) hr_b0 Tryd.underlying23 rfl (by rw [bl_length]; exact info32)) ?_
    refine Obs.cons (Ob.call 66 #[bv (b), .int .i64 (255)] rfl (fun w => by kernel_rfl) (fun w hg => Bit_0 b hs w)) ?_
    refine Obs.cons (Ob.imm rfl (fun w => by kernel_rfl)) ?_
    exact Obs.nil
  replace hr_b0 := rangeAt_grown hr_b0 hD.gr
  replace ht_b0 := there_grown ht_b0 hD.gr
  replace ht_b1 := there_grown ht_b1 hD.gr
  replace hW := grown_trans hW hD.gr
  clear hD
  simp only [finAct, putAll, valsFrom, Plan.value, Act.put, List.setIfInBounds_toArray, List.set_cons_zero, List.set_cons_succ]
  replace hGl := hGl0.grown hW
  repeat ((fail_if_success (with_reducible show Code.wp _ (Code.region _ _ _) _ _ _)); go_step)
  refine wp_plain_fin [.imm (.pointer (some ⟨b0, 31, none⟩)), .val (.int .u8 (top (b) : Nat)), .imm (.int .u8 (top (b % H) : Nat)), .imm (.pointer (some ⟨b0, 31, none⟩)), .fin] (b0) 31 (fun _ => [.int .u8 (top (b % H) : Nat)]) (by kernel_rfl) (fun β => ?_) (fun β w3 hD => ?_)
  · refine Obs.cons (Ob.imm rfl (fun w => exec_idx 31 (by decide) rfl (by kernel_rfl) (by kernel_rfl))) ?_
    refine Obs.cons (Ob.load1 (b0) 31 rfl rfl (by kernel_rfl) (block_lt_of_cell (cell_top hr_b0)) (cell_top hr_b0) (fun w h => run_load8 w h)) ?_
    refine Obs.cons (Ob.imm rfl (fun w => exec_and8 (top (b)) (127) (top (b % H)) rfl (by kernel_rfl) (by kernel_rfl) (by rw [top_low]; exact and127 ⟨top b, top_lt b⟩))) ?_
    refine Obs.cons (Ob.imm rfl (fun w => exec_idx 31 (by decide) rfl (by kernel_rfl) (by kernel_rfl))) ?_
    refine Obs.cons (Ob.fin1 (.int .u8 (top (b % H) : Nat)) rfl rfl (there_31 ht_b0) rfl (by kernel_rfl) (by kernel_rfl) (fun w v0 h hf => run_store8 w v0 h hf)) ?_
    exact Obs.nil
  replace hr_b0 := rangeAt_grown hr_b0 hD.gr
  replace ht_b0 := there_grown ht_b0 hD.gr
  replace ht_b1 := there_grown ht_b1 hD.gr
  replace hW := grown_trans hW hD.gr
  clear hD
  simp only [finAct, putAll, valsFrom, Plan.value, Act.put, List.setIfInBounds_toArray, List.set_cons_zero, List.set_cons_succ]
  replace hGl := hGl0.grown hW
  have hs3 : (w3.setCells (b0) 31 [.int .u8 (top (b % H) : Nat)]).rangeAt (b0) 0 (bl (b % H)) := rangeAt_top hr_b0 (low_byte b)
  replace hW := grown_setCells hf_b0 [.int .u8 (top (b % H) : Nat)] 31 hW
  replace ht_b0 := World.there_setCells ht_b0 (b0) 31 [.int .u8 (top (b % H) : Nat)]
  replace ht_b1 := World.there_setCells ht_b1 (b0) 31 [.int .u8 (top (b % H) : Nat)]
  replace hGl := hGl0.grown hW
  generalize w3.setCells (b0) 31 [.int .u8 (top (b % H) : Nat)] = w3s at *
  repeat ((fail_if_success (with_reducible show Code.wp _ (Code.region _ _ _) _ _ _)); go_step)
  refine wp_plain [.val (bv (b % H)), .val (.bool true), .imm (.bool false)] (by kernel_rfl) (fun β => ?_) (fun β w4 hD => ?_)
  · refine Obs.cons (Ob.load (b0) 0 (bl (b % H)) rfl rfl (by kernel_rfl) hs3 Tryd.underlying23 rfl (by rw [bl_length]; exact info32)) ?_
    refine Obs.cons (Ob.call 67 #[bv (b % H)] rfl (fun w => by kernel_rfl) (fun w hg => canonR1 (b % H) (low_lt b) hy w)) ?_
    refine Obs.cons (Ob.imm rfl (fun w => by kernel_rfl)) ?_
    exact Obs.nil
  replace hs3 := rangeAt_grown hs3 hD.gr
  replace ht_b0 := there_grown ht_b0 hD.gr
  replace ht_b1 := there_grown ht_b1 hD.gr
  replace hW := grown_trans hW hD.gr
  clear hD
  simp only [finAct, putAll, valsFrom, Plan.value, Act.put, List.setIfInBounds_toArray, List.set_cons_zero, List.set_cons_succ]
  replace hGl := hGl0.grown hW
  repeat ((fail_if_success (with_reducible show Code.wp _ (Code.region _ _ _) _ _ _)); go_step)
  refine wp_plain [.val (bv (b % H)), .val (rn (b % H)), .new 77 17, .put 2 2 (fun _ => rl (d15 (b % H)))] (by kernel_rfl) (fun β => ?_) (fun β w5 hD => ?_)
  · refine Obs.cons (Ob.load (b0) 0 (bl (b % H)) rfl rfl (by kernel_rfl) hs3 Tryd.underlying23 rfl (by rw [bl_length]; exact info32)) ?_
    refine Obs.cons (Ob.call 63 #[bv (b % H)] rfl (fun w => by kernel_rfl) (fun w hg => read_y b w)) ?_
    refine Obs.cons (Ob.new _ rfl rfl zeroR (by simp [rl_length])) ?_
    refine Obs.cons (Ob.put 77 rfl rfl rfl (by kernel_rfl) (by kernel_rfl) (by rw [rl_length]; exact infoR) (rl_one _)) ?_
    exact Obs.nil
  have hn_b0_b2 := ne_of_fresh hs3 (hD.nw 2 _ _ rfl).1
  replace hs3 := rangeAt_grown hs3 hD.gr
  replace ht_b0 := there_grown ht_b0 hD.gr
  replace ht_b1 := there_grown ht_b1 hD.gr
  obtain ⟨hf_b2, ht_b2⟩ := hD.nw 2 _ _ rfl
  have hr_b2 : w5.rangeAt (β 2) 0 (rl (d15 (b % H))) := hD.rg 3 2 2 (fun _ => rl (d15 (b % H))) rfl
  replace hf_b2 := Nat.le_trans hW.2.2 hf_b2
  replace hW := grown_trans hW hD.gr
  clear hD
  simp only [finAct, putAll, valsFrom, Plan.value, Act.put, List.setIfInBounds_toArray, List.set_cons_zero, List.set_cons_succ]
  replace hGl := hGl0.grown hW
  generalize β (0 + 1 + 1) = b2 at *
  repeat ((fail_if_success (with_reducible show Code.wp _ (Code.region _ _ _) _ _ _)); go_step)
  refine wp_plain [.val (rn (b % H)), .val (rn (b % H)), .any (fun z => rn (z)) [] (fun l z => z < H ∧ z % p = (b % H) * (b % H) % p), .new 77 17, .put 3 2 (fun z => rl (d15 (z)))] (by kernel_rfl) (fun β => ?_) (fun β w6 hD => ?_)
  · refine Obs.cons (Ob.load (b2) 0 (rl (d15 (b % H))) rfl rfl (by kernel_rfl) hr_b2 Tryd.underlying77 rfl (by rw [rl_length]; exact infoR)) ?_
    refine Obs.cons (Ob.load (b2) 0 (rl (d15 (b % H))) rfl rfl (by kernel_rfl) hr_b2 Tryd.underlying77 rfl (by rw [rl_length]; exact infoR)) ?_
    refine Obs.cons (Ob.any 68 #[rn (b % H), rn (b % H)] rfl (fun w => by kernel_rfl) (fun hk w hg => times_r (b % H) (b % H) (mod_HH _) (mod_HH _) w)) ?_
    refine Obs.cons (Ob.new _ rfl rfl zeroR (by simp [rl_length])) ?_
    refine Obs.cons (Ob.put 77 rfl rfl rfl (by kernel_rfl) (by kernel_rfl) (by rw [rl_length]; exact infoR) (rl_one _)) ?_
    exact Obs.nil
  have hn_b0_b3 := ne_of_fresh hs3 (hD.nw 3 _ _ rfl).1
  have hn_b2_b3 := ne_of_freshR hr_b2 (hD.nw 3 _ _ rfl).1
  replace hs3 := rangeAt_grown hs3 hD.gr
  replace hr_b2 := rangeAt_grown hr_b2 hD.gr
  replace ht_b0 := there_grown ht_b0 hD.gr
  replace ht_b1 := there_grown ht_b1 hD.gr
  replace ht_b2 := there_grown ht_b2 hD.gr
  obtain ⟨hf_b3, ht_b3⟩ := hD.nw 3 _ _ rfl
  have hr_b3 : w6.rangeAt (β 3) 0 (rl (d15 (β 2))) := hD.rg 4 3 2 (fun z => rl (d15 (z))) rfl
  replace hf_b3 := Nat.le_trans hW.2.2 hf_b3
  have hz6_2 : (β 2) < H ∧ (β 2) % p = (b % H) * (b % H) % p := hD.an 2 _ _ _ rfl
  replace hW := grown_trans hW hD.gr
  clear hD
  simp only [finAct, putAll, valsFrom, Plan.value, Act.put, List.setIfInBounds_toArray, List.set_cons_zero, List.set_cons_succ]
  replace hGl := hGl0.grown hW
  generalize β (0 + 1 + 1 + 1) = b3 at *
  generalize β (0 + 1 + 1) = z6_2 at *
  have hq6_2 := Hid.of hz6_2.2
  replace hz6_2 := hz6_2.1
  repeat ((fail_if_success (with_reducible show Code.wp _ (Code.region _ _ _) _ _ _)); go_step)
  replace hs3 := rangeAt_grown hs3 (gdrew w6)
  replace hr_b2 := rangeAt_grown hr_b2 (gdrew w6)
  replace hr_b3 := rangeAt_grown hr_b3 (gdrew w6)
  replace ht_b0 := there_grown ht_b0 (gdrew w6)
  replace ht_b1 := there_grown ht_b1 (gdrew w6)
  replace ht_b2 := there_grown ht_b2 (gdrew w6)
  replace ht_b3 := there_grown ht_b3 (gdrew w6)
  replace hW := grown_trans hW (gdrew w6)
  replace hGl := hGl0.grown hW
  refine wp_loose [.val (bv (dd)), .val (rn (dd)), .val (rn (z6_2)), .any (fun z => rn (z)) [] (fun l z => z < H ∧ z % p = (dd) * (z6_2) % p), .val (rn (1)), .any (fun z => rn (z)) [3] (fun l z => z < H ∧ z % p = ((l.getD 0 0) + (1)) % p), .new 77 17, .put 6 5 (fun z => rl (d15 (z)))] (by kernel_rfl) (by kernel_rfl) (fun β => ?_) (fun β w7 hD => ?_)
  · refine Obs.cons (Ob.load (1) 0 (bl (dd)) rfl rfl (by kernel_rfl) hGl.rd Tryd.underlying23 rfl (by rw [bl_length]; exact info32)) ?_
    refine Obs.cons (Ob.call 63 #[bv (dd)] rfl (fun w => by kernel_rfl) (fun w hg => read_d w)) ?_
    refine Obs.cons (Ob.load (b3) 0 (rl (d15 (z6_2))) rfl rfl (by kernel_rfl) hr_b3 Tryd.underlying77 rfl (by rw [rl_length]; exact infoR)) ?_
    refine Obs.cons (Ob.any 68 #[rn (dd), rn (z6_2)] rfl (fun w => by kernel_rfl) (fun hk w hg => times_r (dd) (z6_2) dd_H hz6_2 w)) ?_
    refine Obs.cons (Ob.call 60 #[.int .i64 (1)] rfl (fun w => by kernel_rfl) (fun w hg => small_v 1 (by decide) 1 rfl w)) ?_
    refine Obs.cons (Ob.any 69 #[rn (β 3), rn (1)] rfl (fun w => by kernel_rfl) (fun hk w hg => plus_r (β 3) (1) (hk 3 _ _ _ rfl (bindsTo_spec (by kernel_rfl))).1 (by decide) w)) ?_
    refine Obs.cons (Ob.new _ rfl rfl zeroR (by simp [rl_length])) ?_
    refine Obs.cons (Ob.put 77 rfl rfl rfl (by kernel_rfl) (by kernel_rfl) (by rw [rl_length]; exact infoR) (rl_one _)) ?_
    exact Obs.nil
  have hn_b0_b4 := ne_of_fresh hs3 (hD.nw 6 _ _ rfl).1
  have hn_b2_b4 := ne_of_freshR hr_b2 (hD.nw 6 _ _ rfl).1
  have hn_b3_b4 := ne_of_freshR hr_b3 (hD.nw 6 _ _ rfl).1
  replace hs3 := rangeAt_grown hs3 hD.gr
  replace hr_b2 := rangeAt_grown hr_b2 hD.gr
  replace hr_b3 := rangeAt_grown hr_b3 hD.gr
  replace ht_b0 := there_grown ht_b0 hD.gr
  replace ht_b1 := there_grown ht_b1 hD.gr
  replace ht_b2 := there_grown ht_b2 hD.gr
  replace ht_b3 := there_grown ht_b3 hD.gr
  obtain ⟨hf_b4, ht_b4⟩ := hD.nw 6 _ _ rfl
  have hr_b4 : w7.rangeAt (β 6) 0 (rl (d15 (β 5))) := hD.rg 7 6 5 (fun z => rl (d15 (z))) rfl
  replace hf_b4 := Nat.le_trans hW.2.2 hf_b4
  have hz7_3 : (β 3) < H ∧ (β 3) % p = (dd) * (z6_2) % p := hD.an 3 _ _ _ rfl
  have hz7_5 : (β 5) < H ∧ (β 5) % p = ((β 3) + (1)) % p := hD.an 5 _ _ _ rfl
  replace hW := grown_trans hW hD.gr
  clear hD
  simp only [finAct, putAll, valsFrom, Plan.value, Act.put, List.setIfInBounds_toArray, List.set_cons_zero, List.set_cons_succ]
  replace hGl := hGl0.grown hW
  generalize β (0 + 1 + 1 + 1 + 1 + 1 + 1) = b4 at *
  generalize β (0 + 1 + 1 + 1) = z7_3 at *
  generalize β (0 + 1 + 1 + 1 + 1 + 1) = z7_5 at *
  have hq7_3 := Hid.of hz7_3.2
  replace hz7_3 := hz7_3.1
  have hq7_5 := Hid.of hz7_5.2
  replace hz7_5 := hz7_5.1
  repeat ((fail_if_success (with_reducible show Code.wp _ (Code.region _ _ _) _ _ _)); go_step)
  replace hs3 := rangeAt_grown hs3 (gdrew w7)
  replace hr_b2 := rangeAt_grown hr_b2 (gdrew w7)
  replace hr_b3 := rangeAt_grown hr_b3 (gdrew w7)
  replace hr_b4 := rangeAt_grown hr_b4 (gdrew w7)
  replace ht_b0 := there_grown ht_b0 (gdrew w7)
  replace ht_b1 := there_grown ht_b1 (gdrew w7)
  replace ht_b2 := there_grown ht_b2 (gdrew w7)
  replace ht_b3 := there_grown ht_b3 (gdrew w7)
  replace ht_b4 := there_grown ht_b4 (gdrew w7)
  replace hW := grown_trans hW (gdrew w7)
  replace hGl := hGl0.grown hW
  refine wp_loose [.val (rn (z6_2)), .val (rn (1)), .any (fun z => rn (z)) [] (fun l z => z < H ∧ z % p = sb (z6_2) (1)), .val (rn (z7_5)), .any (fun z => rn (z)) [] (fun l z => z < H ∧ z % p = inv (z7_5)), .any (fun z => rn (z)) [2, 4] (fun l z => z < H ∧ z % p = uu (b % H) * inv (vv (b % H)) % p), .any (fun z => .tuple #[rn (z), .bool true]) [5] (fun l z => z < H ∧ vv (b % H) * ((z % p) * (z % p)) % p = uu (b % H) % p), .any (fun z => .tuple #[rn (z), .bool true]) [6] (fun l b => b = l.getD 0 0), .any (fun z => rn (z)) [7] (fun l b => b = l.getD 0 0), .imm (.bool true), .new 77 17, .put 10 8 (fun z => rl (d15 (z))), .imm (.bool true)] (by kernel_rfl) (by kernel_rfl) (fun β => ?_) (fun β w8 hD => ?_)
  · refine Obs.cons (Ob.load (b3) 0 (rl (d15 (z6_2))) rfl rfl (by kernel_rfl) hr_b3 Tryd.underlying77 rfl (by rw [rl_length]; exact infoR)) ?_
    refine Obs.cons (Ob.call 60 #[.int .i64 (1)] rfl (fun w => by kernel_rfl) (fun w hg => small_v 1 (by decide) 1 rfl w)) ?_
    refine Obs.cons (Ob.any 71 #[rn (z6_2), rn (1)] rfl (fun w => by kernel_rfl) (fun hk w hg => minus_r (z6_2) (1) hz6_2 (by decide) w)) ?_
    refine Obs.cons (Ob.load (b4) 0 (rl (d15 (z7_5))) rfl rfl (by kernel_rfl) hr_b4 Tryd.underlying77 rfl (by rw [rl_length]; exact infoR)) ?_
    refine Obs.cons (Ob.any 72 #[rn (z7_5)] rfl (fun w => by kernel_rfl) (fun hk w hg => inverse_r (z7_5) hz7_5 w)) ?_
    refine Obs.cons (Ob.any 68 #[rn (β 2), rn (β 4)] rfl (fun w => by kernel_rfl) (fun hk w hg => (times_r (β 2) (β 4) (hk 2 _ _ _ rfl (bindsTo_spec (by kernel_rfl))).1 (hk 4 _ _ _ rfl (bindsTo_spec (by kernel_rfl))).1 w).mono fun _ _ ⟨⟨z, h1, h2, h3⟩, h4⟩ => ⟨⟨z, h1, h2, arg_root hq6_2.out hq7_3.out hq7_5.out (hk 2 _ _ _ rfl (bindsTo_spec (by kernel_rfl))).2 (hk 4 _ _ _ rfl (bindsTo_spec (by kernel_rfl))).2 h3⟩, h4⟩)) ?_
    refine Obs.cons (Ob.any 70 #[rn (β 5)] rfl (fun w => by kernel_rfl) (fun hk w hg => (root_yes (β 5) (hk 5 _ _ _ rfl (bindsTo_spec (by kernel_rfl))).1 ((sqr_rok (vv_ne _) (hk 5 _ _ _ rfl (bindsTo_spec (by kernel_rfl))).2).2 hr) w).mono fun _ _ ⟨⟨z, h1, h2, h3⟩, h4⟩ => ⟨⟨z, h1, h2, root_of_sq (vv_ne _) (hk 5 _ _ _ rfl (bindsTo_spec (by kernel_rfl))).2 h3⟩, h4⟩)) ?_
    refine Obs.cons (Ob.der (β 6) rfl (fun _ w => by kernel_rfl) (fun _ => rfl)) ?_
    refine Obs.cons (Ob.der (β 7) rfl (fun _ w => by kernel_rfl) (fun _ => rfl)) ?_
    refine Obs.cons (Ob.imm rfl (fun w => by kernel_rfl)) ?_
    refine Obs.cons (Ob.new _ rfl rfl zeroR (by simp [rl_length])) ?_
    refine Obs.cons (Ob.put 77 rfl rfl rfl (by kernel_rfl) (by kernel_rfl) (by rw [rl_length]; exact infoR) (rl_one _)) ?_
    refine Obs.cons (Ob.imm rfl (fun w => by kernel_rfl)) ?_
    exact Obs.nil
  have hn_b0_b5 := ne_of_fresh hs3 (hD.nw 10 _ _ rfl).1
  have hn_b2_b5 := ne_of_freshR hr_b2 (hD.nw 10 _ _ rfl).1
  have hn_b3_b5 := ne_of_freshR hr_b3 (hD.nw 10 _ _ rfl).1
  have hn_b4_b5 := ne_of_freshR hr_b4 (hD.nw 10 _ _ rfl).1
  replace hs3 := rangeAt_grown hs3 hD.gr
  replace hr_b2 := rangeAt_grown hr_b2 hD.gr
  replace hr_b3 := rangeAt_grown hr_b3 hD.gr
  replace hr_b4 := rangeAt_grown hr_b4 hD.gr
  replace ht_b0 := there_grown ht_b0 hD.gr
  replace ht_b1 := there_grown ht_b1 hD.gr
  replace ht_b2 := there_grown ht_b2 hD.gr
  replace ht_b3 := there_grown ht_b3 hD.gr
  replace ht_b4 := there_grown ht_b4 hD.gr
  obtain ⟨hf_b5, ht_b5⟩ := hD.nw 10 _ _ rfl
  have hr_b5 : w8.rangeAt (β 10) 0 (rl (d15 (β 8))) := hD.rg 11 10 8 (fun z => rl (d15 (z))) rfl
  replace hf_b5 := Nat.le_trans hW.2.2 hf_b5
  have hz8_2 : (β 2) < H ∧ (β 2) % p = sb (z6_2) (1) := hD.an 2 _ _ _ rfl
  have hz8_4 : (β 4) < H ∧ (β 4) % p = inv (z7_5) := hD.an 4 _ _ _ rfl
  have hz8_5 : (β 5) < H ∧ (β 5) % p = uu (b % H) * inv (vv (b % H)) % p := hD.an 5 _ _ _ rfl
  have hz8_6 : (β 6) < H ∧ vv (b % H) * (((β 6) % p) * ((β 6) % p)) % p = uu (b % H) % p := hD.an 6 _ _ _ rfl
  have hz8_7 : β 6 = β 7 := (hD.an 7 _ _ _ rfl : β 7 = β 6).symm
  have hz8_8 : β 7 = β 8 := (hD.an 8 _ _ _ rfl : β 8 = β 7).symm
  replace hW := grown_trans hW hD.gr
  clear hD
  simp only [finAct, putAll, valsFrom, Plan.value, Act.put, List.setIfInBounds_toArray, List.set_cons_zero, List.set_cons_succ]
  replace hGl := hGl0.grown hW
  generalize β (0 + 1 + 1 + 1 + 1 + 1 + 1 + 1 + 1 + 1 + 1) = b5 at *
  generalize β (0 + 1 + 1) = z8_2 at *
  generalize β (0 + 1 + 1 + 1 + 1) = z8_4 at *
  generalize β (0 + 1 + 1 + 1 + 1 + 1) = z8_5 at *
  generalize β (0 + 1 + 1 + 1 + 1 + 1 + 1) = z8_6 at *
  generalize β (0 + 1 + 1 + 1 + 1 + 1 + 1 + 1) = z8_7 at *
  generalize β (0 + 1 + 1 + 1 + 1 + 1 + 1 + 1 + 1) = z8_8 at *
  subst hz8_7
  subst hz8_8
  have hq8_2 := Hid.of hz8_2.2
  replace hz8_2 := hz8_2.1
  have hq8_4 := Hid.of hz8_4.2
  replace hz8_4 := hz8_4.1
  have hq8_5 := Hid.of hz8_5.2
  replace hz8_5 := hz8_5.1
  have hq8_6 := Hid.of hz8_6.2
  replace hz8_6 := hz8_6.1
  repeat ((fail_if_success (with_reducible show Code.wp _ (Code.region _ _ _) _ _ _)); go_step)
  refine wp_plain [.imm (.bool true), .imm (.bool false)] (by kernel_rfl) (fun β => ?_) (fun β w9 hD => ?_)
  · refine Obs.cons (Ob.imm rfl (fun w => by kernel_rfl)) ?_
    refine Obs.cons (Ob.imm rfl (fun w => by kernel_rfl)) ?_
    exact Obs.nil
  replace hs3 := rangeAt_grown hs3 hD.gr
  replace hr_b2 := rangeAt_grown hr_b2 hD.gr
  replace hr_b3 := rangeAt_grown hr_b3 hD.gr
  replace hr_b4 := rangeAt_grown hr_b4 hD.gr
  replace hr_b5 := rangeAt_grown hr_b5 hD.gr
  replace ht_b0 := there_grown ht_b0 hD.gr
  replace ht_b1 := there_grown ht_b1 hD.gr
  replace ht_b2 := there_grown ht_b2 hD.gr
  replace ht_b3 := there_grown ht_b3 hD.gr
  replace ht_b4 := there_grown ht_b4 hD.gr
  replace ht_b5 := there_grown ht_b5 hD.gr
  replace hW := grown_trans hW hD.gr
  clear hD
  simp only [finAct, putAll, valsFrom, Plan.value, Act.put, List.setIfInBounds_toArray, List.set_cons_zero, List.set_cons_succ]
  replace hGl := hGl0.grown hW
  repeat ((fail_if_success (with_reducible show Code.wp _ (Code.region _ _ _) _ _ _)); go_step)
  have hro := Hid.of (two_roots (vv_ne _) hq8_6.out (Nat.mod_lt _ p_pos))
  clear hq6_2 hq7_3 hq7_5 hq8_2 hq8_4 hq8_5 hq8_6
  refine wp_plain_fin [.val (rn (z8_6)), .val (rn ((z8_6) % p)), .fin] (b5) 0 (fun _ => rl (d15 ((z8_6) % p))) (by kernel_rfl) (fun β => ?_) (fun β w10 hD => ?_)
  · refine Obs.cons (Ob.load (b5) 0 (rl (d15 (z8_6))) rfl rfl (by kernel_rfl) hr_b5 Tryd.underlying77 rfl (by rw [rl_length]; exact infoR)) ?_
    refine Obs.cons (Ob.call 73 #[rn (z8_6)] rfl (fun w => by kernel_rfl) (fun w hg => least_r (z8_6) hz8_6 w)) ?_
    refine Obs.cons (Ob.fin rfl (by rw [rl_length]; exact ht_b5) rfl (by kernel_rfl) (by kernel_rfl) (by rw [rl_length]; exact infoR) (rl_one _)) ?_
    exact Obs.nil
  replace hs3 := rangeAt_grown hs3 hD.gr
  replace hr_b2 := rangeAt_grown hr_b2 hD.gr
  replace hr_b3 := rangeAt_grown hr_b3 hD.gr
  replace hr_b4 := rangeAt_grown hr_b4 hD.gr
  replace hr_b5 := rangeAt_grown hr_b5 hD.gr
  replace ht_b0 := there_grown ht_b0 hD.gr
  replace ht_b1 := there_grown ht_b1 hD.gr
  replace ht_b2 := there_grown ht_b2 hD.gr
  replace ht_b3 := there_grown ht_b3 hD.gr
  replace ht_b4 := there_grown ht_b4 hD.gr
  replace ht_b5 := there_grown ht_b5 hD.gr
  replace hW := grown_trans hW hD.gr
  clear hD
  simp only [finAct, putAll, valsFrom, Plan.value, Act.put, List.setIfInBounds_toArray, List.set_cons_zero, List.set_cons_succ]
  replace hGl := hGl0.grown hW
  have hs10 := World.rangeAt_setCells_same w10 (b5) 0 (rl (d15 ((z8_6) % p))) (by rw [rl_length]; exact ht_b5)
  replace hW := grown_setCells hf_b5 (rl (d15 ((z8_6) % p))) 0 hW
  replace hs3 := World.rangeAt_setCells_apart hs3 (b5) 0 (rl (d15 ((z8_6) % p))) (.inl (hn_b0_b5))
  replace ht_b0 := World.there_setCells ht_b0 (b5) 0 (rl (d15 ((z8_6) % p)))
  replace ht_b1 := World.there_setCells ht_b1 (b5) 0 (rl (d15 ((z8_6) % p)))
  replace ht_b2 := World.there_setCells ht_b2 (b5) 0 (rl (d15 ((z8_6) % p)))
  replace ht_b3 := World.there_setCells ht_b3 (b5) 0 (rl (d15 ((z8_6) % p)))
  replace ht_b4 := World.there_setCells ht_b4 (b5) 0 (rl (d15 ((z8_6) % p)))
  replace ht_b5 := World.there_setCells ht_b5 (b5) 0 (rl (d15 ((z8_6) % p)))
  replace hGl := hGl0.grown hW
  generalize w10.setCells (b5) 0 (rl (d15 ((z8_6) % p))) = w10s at *
  repeat ((fail_if_success (with_reducible show Code.wp _ (Code.region _ _ _) _ _ _)); go_step)
  have hx0 := x_zero hro.out h0
  replace hx0 := Hid.of hx0
  replace hs3 := rangeAt_grown hs3 (gdrew w10s)
  replace hs10 := rangeAt_grown hs10 (gdrew w10s)
  replace ht_b0 := there_grown ht_b0 (gdrew w10s)
  replace ht_b1 := there_grown ht_b1 (gdrew w10s)
  replace ht_b2 := there_grown ht_b2 (gdrew w10s)
  replace ht_b3 := there_grown ht_b3 (gdrew w10s)
  replace ht_b4 := there_grown ht_b4 (gdrew w10s)
  replace ht_b5 := there_grown ht_b5 (gdrew w10s)
  replace hW := grown_trans hW (gdrew w10s)
  replace hGl := hGl0.grown hW
  refine wp_loose [.val (rn ((z8_6) % p)), .val (rn (0)), .imm (.bool true), .imm (.bool true), .imm (.int .i64 (0)), .imm (.bool false), .imm (.bool false)] (by kernel_rfl) (by kernel_rfl) (fun β => ?_) (fun β w11 hD => ?_)
  · refine Obs.cons (Ob.load (b5) 0 (rl (d15 ((z8_6) % p))) rfl rfl (by kernel_rfl) hs10 Tryd.underlying77 rfl (by rw [rl_length]; exact infoR)) ?_
    refine Obs.cons (Ob.call 60 #[.int .i64 (0)] rfl (fun w => by kernel_rfl) (fun w hg => small_v 0 (by decide) 0 rfl w)) ?_
    refine Obs.cons (Ob.imm rfl (fun w => exec_eqlR rfl ((z8_6) % p) (0) (by kernel_rfl) (by kernel_rfl) (mod_H _) (by decide) true (decide_eq_true hx0.out) w)) ?_
    refine Obs.cons (Ob.imm rfl (fun w => by kernel_rfl)) ?_
    refine Obs.cons (Ob.imm (by kernel_rfl) (fun w => by kernel_rfl)) ?_
    refine Obs.cons (Ob.imm (by kernel_rfl) (fun w => by kernel_rfl)) ?_
    refine Obs.cons (Ob.imm rfl (fun w => by kernel_rfl)) ?_
    exact Obs.nil
  replace hs3 := rangeAt_grown hs3 hD.gr
  replace hs10 := rangeAt_grown hs10 hD.gr
  replace ht_b0 := there_grown ht_b0 hD.gr
  replace ht_b1 := there_grown ht_b1 hD.gr
  replace ht_b2 := there_grown ht_b2 hD.gr
  replace ht_b3 := there_grown ht_b3 hD.gr
  replace ht_b4 := there_grown ht_b4 hD.gr
  replace ht_b5 := there_grown ht_b5 hD.gr
  replace hW := grown_trans hW hD.gr
  clear hD
  simp only [finAct, putAll, valsFrom, Plan.value, Act.put, List.setIfInBounds_toArray, List.set_cons_zero, List.set_cons_succ]
  replace hGl := hGl0.grown hW
  repeat ((fail_if_success (with_reducible show Code.wp _ (Code.region _ _ _) _ _ _)); go_step)
  by_cases hp0 : (z8_6) % p % 2 = 1
  · have hpar := Hid.of hp0
    clear hp0
    refine wp_plain [.imm (.pointer (some ⟨b5, 0, none⟩)), .val (.int .i64 (d15 ((z8_6) % p) 0)), .imm (.int .i64 (1)), .imm (.int .i64 (0)), .imm (.bool true)] (by kernel_rfl) (fun β => ?_) (fun β w12 hD => ?_)
    · refine Obs.cons (Ob.imm rfl (fun w => exec_idxR 0 (by decide) rfl (by kernel_rfl) (by kernel_rfl))) ?_
      refine Obs.cons (Ob.load1 (b5) 0 rfl rfl (by kernel_rfl) (block_lt_of_cell (cell_r hs10 (j := 0) (by decide))) (cell_r hs10 (by decide)) (fun w h => run_loadI w h)) ?_
      refine Obs.cons (Ob.imm rfl (fun w => exec_par ((z8_6) % p) 1 rfl (by kernel_rfl) (by kernel_rfl) hpar.out)) ?_
      refine Obs.cons (Ob.imm rfl (fun w => by kernel_rfl)) ?_
      refine Obs.cons (Ob.imm rfl (fun w => by kernel_rfl)) ?_
      exact Obs.nil
    replace hs3 := rangeAt_grown hs3 hD.gr
    replace hs10 := rangeAt_grown hs10 hD.gr
    replace ht_b0 := there_grown ht_b0 hD.gr
    replace ht_b1 := there_grown ht_b1 hD.gr
    replace ht_b2 := there_grown ht_b2 hD.gr
    replace ht_b3 := there_grown ht_b3 hD.gr
    replace ht_b4 := there_grown ht_b4 hD.gr
    replace ht_b5 := there_grown ht_b5 hD.gr
    replace hW := grown_trans hW hD.gr
    clear hD
    simp only [finAct, putAll, valsFrom, Plan.value, Act.put, List.setIfInBounds_toArray, List.set_cons_zero, List.set_cons_succ]
    replace hGl := hGl0.grown hW
    repeat ((fail_if_success (with_reducible show Code.wp _ (Code.region _ _ _) _ _ _)); go_step)
    replace hs3 := rangeAt_grown hs3 (gdrew w12)
    replace hs10 := rangeAt_grown hs10 (gdrew w12)
    replace ht_b0 := there_grown ht_b0 (gdrew w12)
    replace ht_b1 := there_grown ht_b1 (gdrew w12)
    replace ht_b2 := there_grown ht_b2 (gdrew w12)
    replace ht_b3 := there_grown ht_b3 (gdrew w12)
    replace ht_b4 := there_grown ht_b4 (gdrew w12)
    replace ht_b5 := there_grown ht_b5 (gdrew w12)
    replace hW := grown_trans hW (gdrew w12)
    replace hGl := hGl0.grown hW
    refine wp_loose_fin [.val (rn (0)), .val (rn ((z8_6) % p)), .any (fun z => rn (z)) [] (fun l z => z < H ∧ z % p = sb (0) ((z8_6) % p)), .fin] (b5) 0 (fun β => rl (d15 (β 2))) (by kernel_rfl) (by kernel_rfl) (fun β => ?_) (fun β w13 hD => ?_)
    · refine Obs.cons (Ob.call 60 #[.int .i64 (0)] rfl (fun w => by kernel_rfl) (fun w hg => small_v 0 (by decide) 0 rfl w)) ?_
      refine Obs.cons (Ob.load (b5) 0 (rl (d15 ((z8_6) % p))) rfl rfl (by kernel_rfl) hs10 Tryd.underlying77 rfl (by rw [rl_length]; exact infoR)) ?_
      refine Obs.cons (Ob.any 71 #[rn (0), rn ((z8_6) % p)] rfl (fun w => by kernel_rfl) (fun hk w hg => minus_r (0) ((z8_6) % p) (by decide) (mod_H _) w)) ?_
      refine Obs.cons (Ob.fin rfl (by rw [rl_length]; exact ht_b5) rfl (by kernel_rfl) (by kernel_rfl) (by rw [rl_length]; exact infoR) (rl_one _)) ?_
      exact Obs.nil
    replace hs3 := rangeAt_grown hs3 hD.gr
    replace hs10 := rangeAt_grown hs10 hD.gr
    replace ht_b0 := there_grown ht_b0 hD.gr
    replace ht_b1 := there_grown ht_b1 hD.gr
    replace ht_b2 := there_grown ht_b2 hD.gr
    replace ht_b3 := there_grown ht_b3 hD.gr
    replace ht_b4 := there_grown ht_b4 hD.gr
    replace ht_b5 := there_grown ht_b5 hD.gr
    have hz13_2 : (β 2) < H ∧ (β 2) % p = sb (0) ((z8_6) % p) := hD.an 2 _ _ _ rfl
    replace hW := grown_trans hW hD.gr
    clear hD
    simp only [finAct, putAll, valsFrom, Plan.value, Act.put, List.setIfInBounds_toArray, List.set_cons_zero, List.set_cons_succ]
    replace hGl := hGl0.grown hW
    generalize β (0 + 1 + 1) = z13_2 at *
    have hq13_2 := Hid.of hz13_2.2
    replace hz13_2 := hz13_2.1
    have hs13 := World.rangeAt_setCells_same w13 (b5) 0 (rl (d15 (z13_2))) (by rw [rl_length]; exact ht_b5)
    replace hW := grown_setCells hf_b5 (rl (d15 (z13_2))) 0 hW
    replace hs3 := World.rangeAt_setCells_apart hs3 (b5) 0 (rl (d15 (z13_2))) (.inl (hn_b0_b5))
    replace ht_b0 := World.there_setCells ht_b0 (b5) 0 (rl (d15 (z13_2)))
    replace ht_b1 := World.there_setCells ht_b1 (b5) 0 (rl (d15 (z13_2)))
    replace ht_b2 := World.there_setCells ht_b2 (b5) 0 (rl (d15 (z13_2)))
    replace ht_b3 := World.there_setCells ht_b3 (b5) 0 (rl (d15 (z13_2)))
    replace ht_b4 := World.there_setCells ht_b4 (b5) 0 (rl (d15 (z13_2)))
    replace ht_b5 := World.there_setCells ht_b5 (b5) 0 (rl (d15 (z13_2)))
    replace hGl := hGl0.grown hW
    generalize w13.setCells (b5) 0 (rl (d15 (z13_2))) = w13s at *
    repeat ((fail_if_success (with_reducible show Code.wp _ (Code.region _ _ _) _ _ _)); go_step)
    replace hs3 := rangeAt_grown hs3 (gdrew w13s)
    replace hs13 := rangeAt_grown hs13 (gdrew w13s)
    replace ht_b0 := there_grown ht_b0 (gdrew w13s)
    replace ht_b1 := there_grown ht_b1 (gdrew w13s)
    replace ht_b2 := there_grown ht_b2 (gdrew w13s)
    replace ht_b3 := there_grown ht_b3 (gdrew w13s)
    replace ht_b4 := there_grown ht_b4 (gdrew w13s)
    replace ht_b5 := there_grown ht_b5 (gdrew w13s)
    replace hW := grown_trans hW (gdrew w13s)
    replace hGl := hGl0.grown hW
    refine wp_loose_fin [.val (rn (z13_2)), .val (bv ((z13_2) % p)), .val (bv (b % H)), .imm (pv ((z13_2) % p) (b % H)), .fin, .imm (.int .i64 (0))] (b1) 0 (fun _ => pcs ((z13_2) % p) (b % H)) (by kernel_rfl) (by kernel_rfl) (fun β => ?_) (fun β w14 hD => ?_)
    · refine Obs.cons (Ob.load (b5) 0 (rl (d15 (z13_2))) rfl rfl (by kernel_rfl) hs13 Tryd.underlying77 rfl (by rw [rl_length]; exact infoR)) ?_
      refine Obs.cons (Ob.call 74 #[rn (z13_2)] rfl (fun w => by kernel_rfl) (fun w hg => written_r (z13_2) hz13_2 w)) ?_
      refine Obs.cons (Ob.load (b0) 0 (bl (b % H)) rfl rfl (by kernel_rfl) hs3 Tryd.underlying23 rfl (by rw [bl_length]; exact info32)) ?_
      refine Obs.cons (Ob.imm rfl (fun w => exec_build rfl (by kernel_rfl) (build_q _ _ w))) ?_
      refine Obs.cons (Ob.fin rfl (by rw [pcs_length]; exact ht_b1) rfl (by kernel_rfl) (by kernel_rfl) (by rw [pcs_length]; exact infoQ) (pcs_one _ _)) ?_
      refine Obs.cons (Ob.imm rfl (fun w => by kernel_rfl)) ?_
      exact Obs.nil
    replace hs3 := rangeAt_grown hs3 hD.gr
    replace hs13 := rangeAt_grown hs13 hD.gr
    replace ht_b0 := there_grown ht_b0 hD.gr
    replace ht_b1 := there_grown ht_b1 hD.gr
    replace ht_b2 := there_grown ht_b2 hD.gr
    replace ht_b3 := there_grown ht_b3 hD.gr
    replace ht_b4 := there_grown ht_b4 hD.gr
    replace ht_b5 := there_grown ht_b5 hD.gr
    replace hW := grown_trans hW hD.gr
    clear hD
    simp only [finAct, putAll, valsFrom, Plan.value, Act.put, List.setIfInBounds_toArray, List.set_cons_zero, List.set_cons_succ]
    replace hGl := hGl0.grown hW
    have hs14 := World.rangeAt_setCells_same w14 (b1) 0 (pcs ((z13_2) % p) (b % H)) (by rw [pcs_length]; exact ht_b1)
    replace hW := grown_setCells hf_b1 (pcs ((z13_2) % p) (b % H)) 0 hW
    generalize w14.setCells (b1) 0 (pcs ((z13_2) % p) (b % H)) = w14s at *
    repeat go_step
    refine bodyPost_ret (v := .tuple #[pv ((z13_2) % p) (b % H), .int .i64 (0)]) (result_cell_tmp Tryd.results36 _ _ (b1) _ (.int .i64 (0)) ?hp ?hv hs14 Tryd.underlying39 rfl (by rw [pcs_length]; exact infoQ)) ?hd ?_
    case hp => rfl
    case hv => rfl
    case hd => rfl
    have hfin : (z13_2) % p = rt (uu (b % H)) (vv (b % H)) := hq13_2.out.trans (f_even_neg hro.out (rt_root hr).1 (rt_root hr).2.1 hpar.out)
    exact ⟨by rw [hfin], hW⟩
  · have hpar := Hid.of hp0
    clear hp0
    refine wp_plain [.imm (.pointer (some ⟨b5, 0, none⟩)), .val (.int .i64 (d15 ((z8_6) % p) 0)), .imm (.int .i64 (0)), .imm (.int .i64 (0)), .imm (.bool false)] (by kernel_rfl) (fun β => ?_) (fun β w12 hD => ?_)
    · refine Obs.cons (Ob.imm rfl (fun w => exec_idxR 0 (by decide) rfl (by kernel_rfl) (by kernel_rfl))) ?_
      refine Obs.cons (Ob.load1 (b5) 0 rfl rfl (by kernel_rfl) (block_lt_of_cell (cell_r hs10 (j := 0) (by decide))) (cell_r hs10 (by decide)) (fun w h => run_loadI w h)) ?_
      refine Obs.cons (Ob.imm rfl (fun w => exec_par ((z8_6) % p) 0 rfl (by kernel_rfl) (by kernel_rfl) (by have := hpar.out; omega))) ?_
      refine Obs.cons (Ob.imm rfl (fun w => by kernel_rfl)) ?_
      refine Obs.cons (Ob.imm rfl (fun w => by kernel_rfl)) ?_
      exact Obs.nil
    replace hs3 := rangeAt_grown hs3 hD.gr
    replace hs10 := rangeAt_grown hs10 hD.gr
    replace ht_b0 := there_grown ht_b0 hD.gr
    replace ht_b1 := there_grown ht_b1 hD.gr
    replace ht_b2 := there_grown ht_b2 hD.gr
    replace ht_b3 := there_grown ht_b3 hD.gr
    replace ht_b4 := there_grown ht_b4 hD.gr
    replace ht_b5 := there_grown ht_b5 hD.gr
    replace hW := grown_trans hW hD.gr
    clear hD
    simp only [finAct, putAll, valsFrom, Plan.value, Act.put, List.setIfInBounds_toArray, List.set_cons_zero, List.set_cons_succ]
    replace hGl := hGl0.grown hW
    repeat ((fail_if_success (with_reducible show Code.wp _ (Code.region _ _ _) _ _ _)); go_step)
    replace hs3 := rangeAt_grown hs3 (gdrew w12)
    replace hs10 := rangeAt_grown hs10 (gdrew w12)
    replace ht_b0 := there_grown ht_b0 (gdrew w12)
    replace ht_b1 := there_grown ht_b1 (gdrew w12)
    replace ht_b2 := there_grown ht_b2 (gdrew w12)
    replace ht_b3 := there_grown ht_b3 (gdrew w12)
    replace ht_b4 := there_grown ht_b4 (gdrew w12)
    replace ht_b5 := there_grown ht_b5 (gdrew w12)
    replace hW := grown_trans hW (gdrew w12)
    replace hGl := hGl0.grown hW
    refine wp_loose_fin [.val (rn ((z8_6) % p)), .val (bv (((z8_6) % p) % p)), .val (bv (b % H)), .imm (pv (((z8_6) % p) % p) (b % H)), .fin, .imm (.int .i64 (0))] (b1) 0 (fun _ => pcs (((z8_6) % p) % p) (b % H)) (by kernel_rfl) (by kernel_rfl) (fun β => ?_) (fun β w13 hD => ?_)
    · refine Obs.cons (Ob.load (b5) 0 (rl (d15 ((z8_6) % p))) rfl rfl (by kernel_rfl) hs10 Tryd.underlying77 rfl (by rw [rl_length]; exact infoR)) ?_
      refine Obs.cons (Ob.call 74 #[rn ((z8_6) % p)] rfl (fun w => by kernel_rfl) (fun w hg => written_r ((z8_6) % p) (mod_H _) w)) ?_
      refine Obs.cons (Ob.load (b0) 0 (bl (b % H)) rfl rfl (by kernel_rfl) hs3 Tryd.underlying23 rfl (by rw [bl_length]; exact info32)) ?_
      refine Obs.cons (Ob.imm rfl (fun w => exec_build rfl (by kernel_rfl) (build_q _ _ w))) ?_
      refine Obs.cons (Ob.fin rfl (by rw [pcs_length]; exact ht_b1) rfl (by kernel_rfl) (by kernel_rfl) (by rw [pcs_length]; exact infoQ) (pcs_one _ _)) ?_
      refine Obs.cons (Ob.imm rfl (fun w => by kernel_rfl)) ?_
      exact Obs.nil
    replace hs3 := rangeAt_grown hs3 hD.gr
    replace hs10 := rangeAt_grown hs10 hD.gr
    replace ht_b0 := there_grown ht_b0 hD.gr
    replace ht_b1 := there_grown ht_b1 hD.gr
    replace ht_b2 := there_grown ht_b2 hD.gr
    replace ht_b3 := there_grown ht_b3 hD.gr
    replace ht_b4 := there_grown ht_b4 hD.gr
    replace ht_b5 := there_grown ht_b5 hD.gr
    replace hW := grown_trans hW hD.gr
    clear hD
    simp only [finAct, putAll, valsFrom, Plan.value, Act.put, List.setIfInBounds_toArray, List.set_cons_zero, List.set_cons_succ]
    replace hGl := hGl0.grown hW
    have hs13 := World.rangeAt_setCells_same w13 (b1) 0 (pcs (((z8_6) % p) % p) (b % H)) (by rw [pcs_length]; exact ht_b1)
    replace hW := grown_setCells hf_b1 (pcs (((z8_6) % p) % p) (b % H)) 0 hW
    generalize w13.setCells (b1) 0 (pcs (((z8_6) % p) % p) (b % H)) = w13s at *
    repeat go_step
    refine bodyPost_ret (v := .tuple #[pv (((z8_6) % p) % p) (b % H), .int .i64 (0)]) (result_cell_tmp Tryd.results36 _ _ (b1) _ (.int .i64 (0)) ?hp ?hv hs13 Tryd.underlying39 rfl (by rw [pcs_length]; exact infoQ)) ?hd ?_
    case hp => rfl
    case hv => rfl
    case hd => rfl
    have hfin : ((z8_6) % p) % p = rt (uu (b % H)) (vv (b % H)) := (mm _).trans (f_even_keep hro.out (rt_root hr).1 (rt_root hr).2.1 hpar.out)
    exact ⟨by rw [hfin], hW⟩

set_option maxRecDepth 100000 in
set_option maxHeartbeats 2000000 in
theorem RD_even1 (b : Nat) (_hb : b < M) (hs :  b < H) (hy : b % H < p) (hr : rok (uu (b % H)) (vv (b % H))) (h0 : ¬ rt (uu (b % H)) (vv (b % H)) = 0) (w : World) (hGl0 : GR w) :
    Calls Tryd.prog 36 #[bv b] w fun e w' => e = .returned (.tuple #[pv (rt (uu (b % H)) (vv (b % H))) (b % H), .int .i64 0]) ∧ Grown w w' := by
  have hW := Grown.refl w
  have hGl := hGl0
  go_enter Tryd.func36, Tryd.ntmps36
  repeat ((fail_if_success (with_reducible show Code.wp _ (Code.region _ _ _) _ _ _)); go_step)
  refine wp_plain [.box 23 (bl (b)), .new 39 64, .imm (.int .i64 (0))] (by kernel_rfl) (fun β => ?_) (fun β w1 hD => ?_)
  · refine Obs.cons (Ob.box rfl rfl (by kernel_rfl)) ?_
    refine Obs.cons (Ob.new _ rfl rfl zeroQ (by simp [pcs_length])) ?_
    refine Obs.cons (Ob.imm rfl (fun w => by kernel_rfl)) ?_
    exact Obs.nil
  obtain ⟨hf_b0, hr_b0⟩ := hD.bx 0 _ _ rfl
  have ht_b0 := there_boxB hr_b0 hf_b0 hD.gr
  replace hf_b0 := Nat.le_trans hW.2.2 hf_b0
  obtain ⟨hf_b1, ht_b1⟩ := hD.nw 1 _ _ rfl
  replace hf_b1 := Nat.le_trans hW.2.2 hf_b1
  have hn_b0_b1 := hD.ap 0 1 _ _ rfl rfl rfl rfl (by decide)
  replace hW := grown_trans hW hD.gr
  clear hD
  simp only [finAct, putAll, valsFrom, Plan.value, Act.put, List.setIfInBounds_toArray, List.set_cons_zero, List.set_cons_succ]
  replace hGl := hGl0.grown hW
  generalize β 0 = b0 at *
  generalize β (0 + 1) = b1 at *
  repeat ((fail_if_success (with_reducible show Code.wp _ (Code.region _ _ _) _ _ _)); go_step)
  refine wp_plain [.val (bv (b)), .val (.int .i64 (0)), .imm (.int .i64 (0))] (by kernel_rfl) (fun β => ?_) (fun β w2 hD => ?_)
  · refine Obs.cons (Ob.load (b0) 0 (bl (b)) rfl rfl (by kernel_rfl) hr_b0 Tryd.underlying23 rfl (by rw [bl_length]; exact info32)) ?_
    refine Obs.cons (Ob.call 66 #[bv (b), .int .i64 (255)] rfl (fun w => by kernel_rfl) (fun w hg => Bit_0 b hs w)) ?_
    refine Obs.cons (Ob.imm rfl (fun w => by kernel_rfl)) ?_
    exact Obs.nil
  replace hr_b0 := rangeAt_grown hr_b0 hD.gr
  replace ht_b0 := there_grown ht_b0 hD.gr
  replace ht_b1 := there_grown ht_b1 hD.gr
  replace hW := grown_trans hW hD.gr
  clear hD
  simp only [finAct, putAll, valsFrom, Plan.value, Act.put, List.setIfInBounds_toArray, List.set_cons_zero, List.set_cons_succ]
  replace hGl := hGl0.grown hW
  repeat ((fail_if_success (with_reducible show Code.wp _ (Code.region _ _ _) _ _ _)); go_step)
  refine wp_plain_fin [.imm (.pointer (some ⟨b0, 31, none⟩)), .val (.int .u8 (top (b) : Nat)), .imm (.int .u8 (top (b % H) : Nat)), .imm (.pointer (some ⟨b0, 31, none⟩)), .fin] (b0) 31 (fun _ => [.int .u8 (top (b % H) : Nat)]) (by kernel_rfl) (fun β => ?_) (fun β w3 hD => ?_)
  · refine Obs.cons (Ob.imm rfl (fun w => exec_idx 31 (by decide) rfl (by kernel_rfl) (by kernel_rfl))) ?_
    refine Obs.cons (Ob.load1 (b0) 31 rfl rfl (by kernel_rfl) (block_lt_of_cell (cell_top hr_b0)) (cell_top hr_b0) (fun w h => run_load8 w h)) ?_
    refine Obs.cons (Ob.imm rfl (fun w => exec_and8 (top (b)) (127) (top (b % H)) rfl (by kernel_rfl) (by kernel_rfl) (by rw [top_low]; exact and127 ⟨top b, top_lt b⟩))) ?_
    refine Obs.cons (Ob.imm rfl (fun w => exec_idx 31 (by decide) rfl (by kernel_rfl) (by kernel_rfl))) ?_
    refine Obs.cons (Ob.fin1 (.int .u8 (top (b % H) : Nat)) rfl rfl (there_31 ht_b0) rfl (by kernel_rfl) (by kernel_rfl) (fun w v0 h hf => run_store8 w v0 h hf)) ?_
    exact Obs.nil
  replace hr_b0 := rangeAt_grown hr_b0 hD.gr
  replace ht_b0 := there_grown ht_b0 hD.gr
  replace ht_b1 := there_grown ht_b1 hD.gr
  replace hW := grown_trans hW hD.gr
  clear hD
  simp only [finAct, putAll, valsFrom, Plan.value, Act.put, List.setIfInBounds_toArray, List.set_cons_zero, List.set_cons_succ]
  replace hGl := hGl0.grown hW
  have hs3 : (w3.setCells (b0) 31 [.int .u8 (top (b % H) : Nat)]).rangeAt (b0) 0 (bl (b % H)) := rangeAt_top hr_b0 (low_byte b)
  replace hW := grown_setCells hf_b0 [.int .u8 (top (b % H) : Nat)] 31 hW
  replace ht_b0 := World.there_setCells ht_b0 (b0) 31 [.int .u8 (top (b % H) : Nat)]
  replace ht_b1 := World.there_setCells ht_b1 (b0) 31 [.int .u8 (top (b % H) : Nat)]
  replace hGl := hGl0.grown hW
  generalize w3.setCells (b0) 31 [.int .u8 (top (b % H) : Nat)] = w3s at *
  repeat ((fail_if_success (with_reducible show Code.wp _ (Code.region _ _ _) _ _ _)); go_step)
  refine wp_plain [.val (bv (b % H)), .val (.bool true), .imm (.bool false)] (by kernel_rfl) (fun β => ?_) (fun β w4 hD => ?_)
  · refine Obs.cons (Ob.load (b0) 0 (bl (b % H)) rfl rfl (by kernel_rfl) hs3 Tryd.underlying23 rfl (by rw [bl_length]; exact info32)) ?_
    refine Obs.cons (Ob.call 67 #[bv (b % H)] rfl (fun w => by kernel_rfl) (fun w hg => canonR1 (b % H) (low_lt b) hy w)) ?_
    refine Obs.cons (Ob.imm rfl (fun w => by kernel_rfl)) ?_
    exact Obs.nil
  replace hs3 := rangeAt_grown hs3 hD.gr
  replace ht_b0 := there_grown ht_b0 hD.gr
  replace ht_b1 := there_grown ht_b1 hD.gr
  replace hW := grown_trans hW hD.gr
  clear hD
  simp only [finAct, putAll, valsFrom, Plan.value, Act.put, List.setIfInBounds_toArray, List.set_cons_zero, List.set_cons_succ]
  replace hGl := hGl0.grown hW
  repeat ((fail_if_success (with_reducible show Code.wp _ (Code.region _ _ _) _ _ _)); go_step)
  refine wp_plain [.val (bv (b % H)), .val (rn (b % H)), .new 77 17, .put 2 2 (fun _ => rl (d15 (b % H)))] (by kernel_rfl) (fun β => ?_) (fun β w5 hD => ?_)
  · refine Obs.cons (Ob.load (b0) 0 (bl (b % H)) rfl rfl (by kernel_rfl) hs3 Tryd.underlying23 rfl (by rw [bl_length]; exact info32)) ?_
    refine Obs.cons (Ob.call 63 #[bv (b % H)] rfl (fun w => by kernel_rfl) (fun w hg => read_y b w)) ?_
    refine Obs.cons (Ob.new _ rfl rfl zeroR (by simp [rl_length])) ?_
    refine Obs.cons (Ob.put 77 rfl rfl rfl (by kernel_rfl) (by kernel_rfl) (by rw [rl_length]; exact infoR) (rl_one _)) ?_
    exact Obs.nil
  have hn_b0_b2 := ne_of_fresh hs3 (hD.nw 2 _ _ rfl).1
  replace hs3 := rangeAt_grown hs3 hD.gr
  replace ht_b0 := there_grown ht_b0 hD.gr
  replace ht_b1 := there_grown ht_b1 hD.gr
  obtain ⟨hf_b2, ht_b2⟩ := hD.nw 2 _ _ rfl
  have hr_b2 : w5.rangeAt (β 2) 0 (rl (d15 (b % H))) := hD.rg 3 2 2 (fun _ => rl (d15 (b % H))) rfl
  replace hf_b2 := Nat.le_trans hW.2.2 hf_b2
  replace hW := grown_trans hW hD.gr
  clear hD
  simp only [finAct, putAll, valsFrom, Plan.value, Act.put, List.setIfInBounds_toArray, List.set_cons_zero, List.set_cons_succ]
  replace hGl := hGl0.grown hW
  generalize β (0 + 1 + 1) = b2 at *
  repeat ((fail_if_success (with_reducible show Code.wp _ (Code.region _ _ _) _ _ _)); go_step)
  refine wp_plain [.val (rn (b % H)), .val (rn (b % H)), .any (fun z => rn (z)) [] (fun l z => z < H ∧ z % p = (b % H) * (b % H) % p), .new 77 17, .put 3 2 (fun z => rl (d15 (z)))] (by kernel_rfl) (fun β => ?_) (fun β w6 hD => ?_)
  · refine Obs.cons (Ob.load (b2) 0 (rl (d15 (b % H))) rfl rfl (by kernel_rfl) hr_b2 Tryd.underlying77 rfl (by rw [rl_length]; exact infoR)) ?_
    refine Obs.cons (Ob.load (b2) 0 (rl (d15 (b % H))) rfl rfl (by kernel_rfl) hr_b2 Tryd.underlying77 rfl (by rw [rl_length]; exact infoR)) ?_
    refine Obs.cons (Ob.any 68 #[rn (b % H), rn (b % H)] rfl (fun w => by kernel_rfl) (fun hk w hg => times_r (b % H) (b % H) (mod_HH _) (mod_HH _) w)) ?_
    refine Obs.cons (Ob.new _ rfl rfl zeroR (by simp [rl_length])) ?_
    refine Obs.cons (Ob.put 77 rfl rfl rfl (by kernel_rfl) (by kernel_rfl) (by rw [rl_length]; exact infoR) (rl_one _)) ?_
    exact Obs.nil
  have hn_b0_b3 := ne_of_fresh hs3 (hD.nw 3 _ _ rfl).1
  have hn_b2_b3 := ne_of_freshR hr_b2 (hD.nw 3 _ _ rfl).1
  replace hs3 := rangeAt_grown hs3 hD.gr
  replace hr_b2 := rangeAt_grown hr_b2 hD.gr
  replace ht_b0 := there_grown ht_b0 hD.gr
  replace ht_b1 := there_grown ht_b1 hD.gr
  replace ht_b2 := there_grown ht_b2 hD.gr
  obtain ⟨hf_b3, ht_b3⟩ := hD.nw 3 _ _ rfl
  have hr_b3 : w6.rangeAt (β 3) 0 (rl (d15 (β 2))) := hD.rg 4 3 2 (fun z => rl (d15 (z))) rfl
  replace hf_b3 := Nat.le_trans hW.2.2 hf_b3
  have hz6_2 : (β 2) < H ∧ (β 2) % p = (b % H) * (b % H) % p := hD.an 2 _ _ _ rfl
  replace hW := grown_trans hW hD.gr
  clear hD
  simp only [finAct, putAll, valsFrom, Plan.value, Act.put, List.setIfInBounds_toArray, List.set_cons_zero, List.set_cons_succ]
  replace hGl := hGl0.grown hW
  generalize β (0 + 1 + 1 + 1) = b3 at *
  generalize β (0 + 1 + 1) = z6_2 at *
  have hq6_2 := Hid.of hz6_2.2
  replace hz6_2 := hz6_2.1
  repeat ((fail_if_success (with_reducible show Code.wp _ (Code.region _ _ _) _ _ _)); go_step)
  replace hs3 := rangeAt_grown hs3 (gdrew w6)
  replace hr_b2 := rangeAt_grown hr_b2 (gdrew w6)
  replace hr_b3 := rangeAt_grown hr_b3 (gdrew w6)
  replace ht_b0 := there_grown ht_b0 (gdrew w6)
  replace ht_b1 := there_grown ht_b1 (gdrew w6)
  replace ht_b2 := there_grown ht_b2 (gdrew w6)
  replace ht_b3 := there_grown ht_b3 (gdrew w6)
  replace hW := grown_trans hW (gdrew w6)
  replace hGl := hGl0.grown hW
  refine wp_loose [.val (bv (dd)), .val (rn (dd)), .val (rn (z6_2)), .any (fun z => rn (z)) [] (fun l z => z < H ∧ z % p = (dd) * (z6_2) % p), .val (rn (1)), .any (fun z => rn (z)) [3] (fun l z => z < H ∧ z % p = ((l.getD 0 0) + (1)) % p), .new 77 17, .put 6 5 (fun z => rl (d15 (z)))] (by kernel_rfl) (by kernel_rfl) (fun β => ?_) (fun β w7 hD => ?_)
  · refine Obs.cons (Ob.load (1) 0 (bl (dd)) rfl rfl (by kernel_rfl) hGl.rd Tryd.underlying23 rfl (by rw [bl_length]; exact info32)) ?_
    refine Obs.cons (Ob.call 63 #[bv (dd)] rfl (fun w => by kernel_rfl) (fun w hg => read_d w)) ?_
    refine Obs.cons (Ob.load (b3) 0 (rl (d15 (z6_2))) rfl rfl (by kernel_rfl) hr_b3 Tryd.underlying77 rfl (by rw [rl_length]; exact infoR)) ?_
    refine Obs.cons (Ob.any 68 #[rn (dd), rn (z6_2)] rfl (fun w => by kernel_rfl) (fun hk w hg => times_r (dd) (z6_2) dd_H hz6_2 w)) ?_
    refine Obs.cons (Ob.call 60 #[.int .i64 (1)] rfl (fun w => by kernel_rfl) (fun w hg => small_v 1 (by decide) 1 rfl w)) ?_
    refine Obs.cons (Ob.any 69 #[rn (β 3), rn (1)] rfl (fun w => by kernel_rfl) (fun hk w hg => plus_r (β 3) (1) (hk 3 _ _ _ rfl (bindsTo_spec (by kernel_rfl))).1 (by decide) w)) ?_
    refine Obs.cons (Ob.new _ rfl rfl zeroR (by simp [rl_length])) ?_
    refine Obs.cons (Ob.put 77 rfl rfl rfl (by kernel_rfl) (by kernel_rfl) (by rw [rl_length]; exact infoR) (rl_one _)) ?_
    exact Obs.nil
  have hn_b0_b4 := ne_of_fresh hs3 (hD.nw 6 _ _ rfl).1
  have hn_b2_b4 := ne_of_freshR hr_b2 (hD.nw 6 _ _ rfl).1
  have hn_b3_b4 := ne_of_freshR hr_b3 (hD.nw 6 _ _ rfl).1
  replace hs3 := rangeAt_grown hs3 hD.gr
  replace hr_b2 := rangeAt_grown hr_b2 hD.gr
  replace hr_b3 := rangeAt_grown hr_b3 hD.gr
  replace ht_b0 := there_grown ht_b0 hD.gr
  replace ht_b1 := there_grown ht_b1 hD.gr
  replace ht_b2 := there_grown ht_b2 hD.gr
  replace ht_b3 := there_grown ht_b3 hD.gr
  obtain ⟨hf_b4, ht_b4⟩ := hD.nw 6 _ _ rfl
  have hr_b4 : w7.rangeAt (β 6) 0 (rl (d15 (β 5))) := hD.rg 7 6 5 (fun z => rl (d15 (z))) rfl
  replace hf_b4 := Nat.le_trans hW.2.2 hf_b4
  have hz7_3 : (β 3) < H ∧ (β 3) % p = (dd) * (z6_2) % p := hD.an 3 _ _ _ rfl
  have hz7_5 : (β 5) < H ∧ (β 5) % p = ((β 3) + (1)) % p := hD.an 5 _ _ _ rfl
  replace hW := grown_trans hW hD.gr
  clear hD
  simp only [finAct, putAll, valsFrom, Plan.value, Act.put, List.setIfInBounds_toArray, List.set_cons_zero, List.set_cons_succ]
  replace hGl := hGl0.grown hW
  generalize β (0 + 1 + 1 + 1 + 1 + 1 + 1) = b4 at *
  generalize β (0 + 1 + 1 + 1) = z7_3 at *
  generalize β (0 + 1 + 1 + 1 + 1 + 1) = z7_5 at *
  have hq7_3 := Hid.of hz7_3.2
  replace hz7_3 := hz7_3.1
  have hq7_5 := Hid.of hz7_5.2
  replace hz7_5 := hz7_5.1
  repeat ((fail_if_success (with_reducible show Code.wp _ (Code.region _ _ _) _ _ _)); go_step)
  replace hs3 := rangeAt_grown hs3 (gdrew w7)
  replace hr_b2 := rangeAt_grown hr_b2 (gdrew w7)
  replace hr_b3 := rangeAt_grown hr_b3 (gdrew w7)
  replace hr_b4 := rangeAt_grown hr_b4 (gdrew w7)
  replace ht_b0 := there_grown ht_b0 (gdrew w7)
  replace ht_b1 := there_grown ht_b1 (gdrew w7)
  replace ht_b2 := there_grown ht_b2 (gdrew w7)
  replace ht_b3 := there_grown ht_b3 (gdrew w7)
  replace ht_b4 := there_grown ht_b4 (gdrew w7)
  replace hW := grown_trans hW (gdrew w7)
  replace hGl := hGl0.grown hW
  refine wp_loose [.val (rn (z6_2)), .val (rn (1)), .any (fun z => rn (z)) [] (fun l z => z < H ∧ z % p = sb (z6_2) (1)), .val (rn (z7_5)), .any (fun z => rn (z)) [] (fun l z => z < H ∧ z % p = inv (z7_5)), .any (fun z => rn (z)) [2, 4] (fun l z => z < H ∧ z % p = uu (b % H) * inv (vv (b % H)) % p), .any (fun z => .tuple #[rn (z), .bool true]) [5] (fun l z => z < H ∧ vv (b % H) * ((z % p) * (z % p)) % p = uu (b % H) % p), .any (fun z => .tuple #[rn (z), .bool true]) [6] (fun l b => b = l.getD 0 0), .any (fun z => rn (z)) [7] (fun l b => b = l.getD 0 0), .imm (.bool true), .new 77 17, .put 10 8 (fun z => rl (d15 (z))), .imm (.bool true)] (by kernel_rfl) (by kernel_rfl) (fun β => ?_) (fun β w8 hD => ?_)
  · refine Obs.cons (Ob.load (b3) 0 (rl (d15 (z6_2))) rfl rfl (by kernel_rfl) hr_b3 Tryd.underlying77 rfl (by rw [rl_length]; exact infoR)) ?_
    refine Obs.cons (Ob.call 60 #[.int .i64 (1)] rfl (fun w => by kernel_rfl) (fun w hg => small_v 1 (by decide) 1 rfl w)) ?_
    refine Obs.cons (Ob.any 71 #[rn (z6_2), rn (1)] rfl (fun w => by kernel_rfl) (fun hk w hg => minus_r (z6_2) (1) hz6_2 (by decide) w)) ?_
    refine Obs.cons (Ob.load (b4) 0 (rl (d15 (z7_5))) rfl rfl (by kernel_rfl) hr_b4 Tryd.underlying77 rfl (by rw [rl_length]; exact infoR)) ?_
    refine Obs.cons (Ob.any 72 #[rn (z7_5)] rfl (fun w => by kernel_rfl) (fun hk w hg => inverse_r (z7_5) hz7_5 w)) ?_
    refine Obs.cons (Ob.any 68 #[rn (β 2), rn (β 4)] rfl (fun w => by kernel_rfl) (fun hk w hg => (times_r (β 2) (β 4) (hk 2 _ _ _ rfl (bindsTo_spec (by kernel_rfl))).1 (hk 4 _ _ _ rfl (bindsTo_spec (by kernel_rfl))).1 w).mono fun _ _ ⟨⟨z, h1, h2, h3⟩, h4⟩ => ⟨⟨z, h1, h2, arg_root hq6_2.out hq7_3.out hq7_5.out (hk 2 _ _ _ rfl (bindsTo_spec (by kernel_rfl))).2 (hk 4 _ _ _ rfl (bindsTo_spec (by kernel_rfl))).2 h3⟩, h4⟩)) ?_
    refine Obs.cons (Ob.any 70 #[rn (β 5)] rfl (fun w => by kernel_rfl) (fun hk w hg => (root_yes (β 5) (hk 5 _ _ _ rfl (bindsTo_spec (by kernel_rfl))).1 ((sqr_rok (vv_ne _) (hk 5 _ _ _ rfl (bindsTo_spec (by kernel_rfl))).2).2 hr) w).mono fun _ _ ⟨⟨z, h1, h2, h3⟩, h4⟩ => ⟨⟨z, h1, h2, root_of_sq (vv_ne _) (hk 5 _ _ _ rfl (bindsTo_spec (by kernel_rfl))).2 h3⟩, h4⟩)) ?_
    refine Obs.cons (Ob.der (β 6) rfl (fun _ w => by kernel_rfl) (fun _ => rfl)) ?_
    refine Obs.cons (Ob.der (β 7) rfl (fun _ w => by kernel_rfl) (fun _ => rfl)) ?_
    refine Obs.cons (Ob.imm rfl (fun w => by kernel_rfl)) ?_
    refine Obs.cons (Ob.new _ rfl rfl zeroR (by simp [rl_length])) ?_
    refine Obs.cons (Ob.put 77 rfl rfl rfl (by kernel_rfl) (by kernel_rfl) (by rw [rl_length]; exact infoR) (rl_one _)) ?_
    refine Obs.cons (Ob.imm rfl (fun w => by kernel_rfl)) ?_
    exact Obs.nil
  have hn_b0_b5 := ne_of_fresh hs3 (hD.nw 10 _ _ rfl).1
  have hn_b2_b5 := ne_of_freshR hr_b2 (hD.nw 10 _ _ rfl).1
  have hn_b3_b5 := ne_of_freshR hr_b3 (hD.nw 10 _ _ rfl).1
  have hn_b4_b5 := ne_of_freshR hr_b4 (hD.nw 10 _ _ rfl).1
  replace hs3 := rangeAt_grown hs3 hD.gr
  replace hr_b2 := rangeAt_grown hr_b2 hD.gr
  replace hr_b3 := rangeAt_grown hr_b3 hD.gr
  replace hr_b4 := rangeAt_grown hr_b4 hD.gr
  replace ht_b0 := there_grown ht_b0 hD.gr
  replace ht_b1 := there_grown ht_b1 hD.gr
  replace ht_b2 := there_grown ht_b2 hD.gr
  replace ht_b3 := there_grown ht_b3 hD.gr
  replace ht_b4 := there_grown ht_b4 hD.gr
  obtain ⟨hf_b5, ht_b5⟩ := hD.nw 10 _ _ rfl
  have hr_b5 : w8.rangeAt (β 10) 0 (rl (d15 (β 8))) := hD.rg 11 10 8 (fun z => rl (d15 (z))) rfl
  replace hf_b5 := Nat.le_trans hW.2.2 hf_b5
  have hz8_2 : (β 2) < H ∧ (β 2) % p = sb (z6_2) (1) := hD.an 2 _ _ _ rfl
  have hz8_4 : (β 4) < H ∧ (β 4) % p = inv (z7_5) := hD.an 4 _ _ _ rfl
  have hz8_5 : (β 5) < H ∧ (β 5) % p = uu (b % H) * inv (vv (b % H)) % p := hD.an 5 _ _ _ rfl
  have hz8_6 : (β 6) < H ∧ vv (b % H) * (((β 6) % p) * ((β 6) % p)) % p = uu (b % H) % p := hD.an 6 _ _ _ rfl
  have hz8_7 : β 6 = β 7 := (hD.an 7 _ _ _ rfl : β 7 = β 6).symm
  have hz8_8 : β 7 = β 8 := (hD.an 8 _ _ _ rfl : β 8 = β 7).symm
  replace hW := grown_trans hW hD.gr
  clear hD
  simp only [finAct, putAll, valsFrom, Plan.value, Act.put, List.setIfInBounds_toArray, List.set_cons_zero, List.set_cons_succ]
  replace hGl := hGl0.grown hW
  generalize β (0 + 1 + 1 + 1 + 1 + 1 + 1 + 1 + 1 + 1 + 1) = b5 at *
  generalize β (0 + 1 + 1) = z8_2 at *
  generalize β (0 + 1 + 1 + 1 + 1) = z8_4 at *
  generalize β (0 + 1 + 1 + 1 + 1 + 1) = z8_5 at *
  generalize β (0 + 1 + 1 + 1 + 1 + 1 + 1) = z8_6 at *
  generalize β (0 + 1 + 1 + 1 + 1 + 1 + 1 + 1) = z8_7 at *
  generalize β (0 + 1 + 1 + 1 + 1 + 1 + 1 + 1 + 1) = z8_8 at *
  subst hz8_7
  subst hz8_8
  have hq8_2 := Hid.of hz8_2.2
  replace hz8_2 := hz8_2.1
  have hq8_4 := Hid.of hz8_4.2
  replace hz8_4 := hz8_4.1
  have hq8_5 := Hid.of hz8_5.2
  replace hz8_5 := hz8_5.1
  have hq8_6 := Hid.of hz8_6.2
  replace hz8_6 := hz8_6.1
  repeat ((fail_if_success (with_reducible show Code.wp _ (Code.region _ _ _) _ _ _)); go_step)
  refine wp_plain [.imm (.bool true), .imm (.bool false)] (by kernel_rfl) (fun β => ?_) (fun β w9 hD => ?_)
  · refine Obs.cons (Ob.imm rfl (fun w => by kernel_rfl)) ?_
    refine Obs.cons (Ob.imm rfl (fun w => by kernel_rfl)) ?_
    exact Obs.nil
  replace hs3 := rangeAt_grown hs3 hD.gr
  replace hr_b2 := rangeAt_grown hr_b2 hD.gr
  replace hr_b3 := rangeAt_grown hr_b3 hD.gr
  replace hr_b4 := rangeAt_grown hr_b4 hD.gr
  replace hr_b5 := rangeAt_grown hr_b5 hD.gr
  replace ht_b0 := there_grown ht_b0 hD.gr
  replace ht_b1 := there_grown ht_b1 hD.gr
  replace ht_b2 := there_grown ht_b2 hD.gr
  replace ht_b3 := there_grown ht_b3 hD.gr
  replace ht_b4 := there_grown ht_b4 hD.gr
  replace ht_b5 := there_grown ht_b5 hD.gr
  replace hW := grown_trans hW hD.gr
  clear hD
  simp only [finAct, putAll, valsFrom, Plan.value, Act.put, List.setIfInBounds_toArray, List.set_cons_zero, List.set_cons_succ]
  replace hGl := hGl0.grown hW
  repeat ((fail_if_success (with_reducible show Code.wp _ (Code.region _ _ _) _ _ _)); go_step)
  have hro := Hid.of (two_roots (vv_ne _) hq8_6.out (Nat.mod_lt _ p_pos))
  clear hq6_2 hq7_3 hq7_5 hq8_2 hq8_4 hq8_5 hq8_6
  refine wp_plain_fin [.val (rn (z8_6)), .val (rn ((z8_6) % p)), .fin] (b5) 0 (fun _ => rl (d15 ((z8_6) % p))) (by kernel_rfl) (fun β => ?_) (fun β w10 hD => ?_)
  · refine Obs.cons (Ob.load (b5) 0 (rl (d15 (z8_6))) rfl rfl (by kernel_rfl) hr_b5 Tryd.underlying77 rfl (by rw [rl_length]; exact infoR)) ?_
    refine Obs.cons (Ob.call 73 #[rn (z8_6)] rfl (fun w => by kernel_rfl) (fun w hg => least_r (z8_6) hz8_6 w)) ?_
    refine Obs.cons (Ob.fin rfl (by rw [rl_length]; exact ht_b5) rfl (by kernel_rfl) (by kernel_rfl) (by rw [rl_length]; exact infoR) (rl_one _)) ?_
    exact Obs.nil
  replace hs3 := rangeAt_grown hs3 hD.gr
  replace hr_b2 := rangeAt_grown hr_b2 hD.gr
  replace hr_b3 := rangeAt_grown hr_b3 hD.gr
  replace hr_b4 := rangeAt_grown hr_b4 hD.gr
  replace hr_b5 := rangeAt_grown hr_b5 hD.gr
  replace ht_b0 := there_grown ht_b0 hD.gr
  replace ht_b1 := there_grown ht_b1 hD.gr
  replace ht_b2 := there_grown ht_b2 hD.gr
  replace ht_b3 := there_grown ht_b3 hD.gr
  replace ht_b4 := there_grown ht_b4 hD.gr
  replace ht_b5 := there_grown ht_b5 hD.gr
  replace hW := grown_trans hW hD.gr
  clear hD
  simp only [finAct, putAll, valsFrom, Plan.value, Act.put, List.setIfInBounds_toArray, List.set_cons_zero, List.set_cons_succ]
  replace hGl := hGl0.grown hW
  have hs10 := World.rangeAt_setCells_same w10 (b5) 0 (rl (d15 ((z8_6) % p))) (by rw [rl_length]; exact ht_b5)
  replace hW := grown_setCells hf_b5 (rl (d15 ((z8_6) % p))) 0 hW
  replace hs3 := World.rangeAt_setCells_apart hs3 (b5) 0 (rl (d15 ((z8_6) % p))) (.inl (hn_b0_b5))
  replace ht_b0 := World.there_setCells ht_b0 (b5) 0 (rl (d15 ((z8_6) % p)))
  replace ht_b1 := World.there_setCells ht_b1 (b5) 0 (rl (d15 ((z8_6) % p)))
  replace ht_b2 := World.there_setCells ht_b2 (b5) 0 (rl (d15 ((z8_6) % p)))
  replace ht_b3 := World.there_setCells ht_b3 (b5) 0 (rl (d15 ((z8_6) % p)))
  replace ht_b4 := World.there_setCells ht_b4 (b5) 0 (rl (d15 ((z8_6) % p)))
  replace ht_b5 := World.there_setCells ht_b5 (b5) 0 (rl (d15 ((z8_6) % p)))
  replace hGl := hGl0.grown hW
  generalize w10.setCells (b5) 0 (rl (d15 ((z8_6) % p))) = w10s at *
  repeat ((fail_if_success (with_reducible show Code.wp _ (Code.region _ _ _) _ _ _)); go_step)
  have hx0 := x_ne hro.out (rt_root hr).1 h0
  replace hx0 := Hid.of hx0
  replace hs3 := rangeAt_grown hs3 (gdrew w10s)
  replace hs10 := rangeAt_grown hs10 (gdrew w10s)
  replace ht_b0 := there_grown ht_b0 (gdrew w10s)
  replace ht_b1 := there_grown ht_b1 (gdrew w10s)
  replace ht_b2 := there_grown ht_b2 (gdrew w10s)
  replace ht_b3 := there_grown ht_b3 (gdrew w10s)
  replace ht_b4 := there_grown ht_b4 (gdrew w10s)
  replace ht_b5 := there_grown ht_b5 (gdrew w10s)
  replace hW := grown_trans hW (gdrew w10s)
  replace hGl := hGl0.grown hW
  refine wp_loose [.val (rn ((z8_6) % p)), .val (rn (0)), .imm (.bool false), .imm (.bool false), .skip, .skip, .imm (.bool false)] (by kernel_rfl) (by kernel_rfl) (fun β => ?_) (fun β w11 hD => ?_)
  · refine Obs.cons (Ob.load (b5) 0 (rl (d15 ((z8_6) % p))) rfl rfl (by kernel_rfl) hs10 Tryd.underlying77 rfl (by rw [rl_length]; exact infoR)) ?_
    refine Obs.cons (Ob.call 60 #[.int .i64 (0)] rfl (fun w => by kernel_rfl) (fun w hg => small_v 0 (by decide) 0 rfl w)) ?_
    refine Obs.cons (Ob.imm rfl (fun w => exec_eqlR rfl ((z8_6) % p) (0) (by kernel_rfl) (by kernel_rfl) (mod_H _) (by decide) false (decide_eq_false hx0.out) w)) ?_
    refine Obs.cons (Ob.imm rfl (fun w => by kernel_rfl)) ?_
    refine Obs.cons (Ob.skip (by kernel_rfl)) ?_
    refine Obs.cons (Ob.skip (by kernel_rfl)) ?_
    refine Obs.cons (Ob.imm rfl (fun w => by kernel_rfl)) ?_
    exact Obs.nil
  replace hs3 := rangeAt_grown hs3 hD.gr
  replace hs10 := rangeAt_grown hs10 hD.gr
  replace ht_b0 := there_grown ht_b0 hD.gr
  replace ht_b1 := there_grown ht_b1 hD.gr
  replace ht_b2 := there_grown ht_b2 hD.gr
  replace ht_b3 := there_grown ht_b3 hD.gr
  replace ht_b4 := there_grown ht_b4 hD.gr
  replace ht_b5 := there_grown ht_b5 hD.gr
  replace hW := grown_trans hW hD.gr
  clear hD
  simp only [finAct, putAll, valsFrom, Plan.value, Act.put, List.setIfInBounds_toArray, List.set_cons_zero, List.set_cons_succ]
  replace hGl := hGl0.grown hW
  repeat ((fail_if_success (with_reducible show Code.wp _ (Code.region _ _ _) _ _ _)); go_step)
  by_cases hp0 : (z8_6) % p % 2 = 1
  · have hpar := Hid.of hp0
    clear hp0
    refine wp_plain [.imm (.pointer (some ⟨b5, 0, none⟩)), .val (.int .i64 (d15 ((z8_6) % p) 0)), .imm (.int .i64 (1)), .imm (.int .i64 (0)), .imm (.bool true)] (by kernel_rfl) (fun β => ?_) (fun β w12 hD => ?_)
    · refine Obs.cons (Ob.imm rfl (fun w => exec_idxR 0 (by decide) rfl (by kernel_rfl) (by kernel_rfl))) ?_
      refine Obs.cons (Ob.load1 (b5) 0 rfl rfl (by kernel_rfl) (block_lt_of_cell (cell_r hs10 (j := 0) (by decide))) (cell_r hs10 (by decide)) (fun w h => run_loadI w h)) ?_
      refine Obs.cons (Ob.imm rfl (fun w => exec_par ((z8_6) % p) 1 rfl (by kernel_rfl) (by kernel_rfl) hpar.out)) ?_
      refine Obs.cons (Ob.imm rfl (fun w => by kernel_rfl)) ?_
      refine Obs.cons (Ob.imm rfl (fun w => by kernel_rfl)) ?_
      exact Obs.nil
    replace hs3 := rangeAt_grown hs3 hD.gr
    replace hs10 := rangeAt_grown hs10 hD.gr
    replace ht_b0 := there_grown ht_b0 hD.gr
    replace ht_b1 := there_grown ht_b1 hD.gr
    replace ht_b2 := there_grown ht_b2 hD.gr
    replace ht_b3 := there_grown ht_b3 hD.gr
    replace ht_b4 := there_grown ht_b4 hD.gr
    replace ht_b5 := there_grown ht_b5 hD.gr
    replace hW := grown_trans hW hD.gr
    clear hD
    simp only [finAct, putAll, valsFrom, Plan.value, Act.put, List.setIfInBounds_toArray, List.set_cons_zero, List.set_cons_succ]
    replace hGl := hGl0.grown hW
    repeat ((fail_if_success (with_reducible show Code.wp _ (Code.region _ _ _) _ _ _)); go_step)
    replace hs3 := rangeAt_grown hs3 (gdrew w12)
    replace hs10 := rangeAt_grown hs10 (gdrew w12)
    replace ht_b0 := there_grown ht_b0 (gdrew w12)
    replace ht_b1 := there_grown ht_b1 (gdrew w12)
    replace ht_b2 := there_grown ht_b2 (gdrew w12)
    replace ht_b3 := there_grown ht_b3 (gdrew w12)
    replace ht_b4 := there_grown ht_b4 (gdrew w12)
    replace ht_b5 := there_grown ht_b5 (gdrew w12)
    replace hW := grown_trans hW (gdrew w12)
    replace hGl := hGl0.grown hW
    refine wp_loose_fin [.val (rn (0)), .val (rn ((z8_6) % p)), .any (fun z => rn (z)) [] (fun l z => z < H ∧ z % p = sb (0) ((z8_6) % p)), .fin] (b5) 0 (fun β => rl (d15 (β 2))) (by kernel_rfl) (by kernel_rfl) (fun β => ?_) (fun β w13 hD => ?_)
    · refine Obs.cons (Ob.call 60 #[.int .i64 (0)] rfl (fun w => by kernel_rfl) (fun w hg => small_v 0 (by decide) 0 rfl w)) ?_
      refine Obs.cons (Ob.load (b5) 0 (rl (d15 ((z8_6) % p))) rfl rfl (by kernel_rfl) hs10 Tryd.underlying77 rfl (by rw [rl_length]; exact infoR)) ?_
      refine Obs.cons (Ob.any 71 #[rn (0), rn ((z8_6) % p)] rfl (fun w => by kernel_rfl) (fun hk w hg => minus_r (0) ((z8_6) % p) (by decide) (mod_H _) w)) ?_
      refine Obs.cons (Ob.fin rfl (by rw [rl_length]; exact ht_b5) rfl (by kernel_rfl) (by kernel_rfl) (by rw [rl_length]; exact infoR) (rl_one _)) ?_
      exact Obs.nil
    replace hs3 := rangeAt_grown hs3 hD.gr
    replace hs10 := rangeAt_grown hs10 hD.gr
    replace ht_b0 := there_grown ht_b0 hD.gr
    replace ht_b1 := there_grown ht_b1 hD.gr
    replace ht_b2 := there_grown ht_b2 hD.gr
    replace ht_b3 := there_grown ht_b3 hD.gr
    replace ht_b4 := there_grown ht_b4 hD.gr
    replace ht_b5 := there_grown ht_b5 hD.gr
    have hz13_2 : (β 2) < H ∧ (β 2) % p = sb (0) ((z8_6) % p) := hD.an 2 _ _ _ rfl
    replace hW := grown_trans hW hD.gr
    clear hD
    simp only [finAct, putAll, valsFrom, Plan.value, Act.put, List.setIfInBounds_toArray, List.set_cons_zero, List.set_cons_succ]
    replace hGl := hGl0.grown hW
    generalize β (0 + 1 + 1) = z13_2 at *
    have hq13_2 := Hid.of hz13_2.2
    replace hz13_2 := hz13_2.1
    have hs13 := World.rangeAt_setCells_same w13 (b5) 0 (rl (d15 (z13_2))) (by rw [rl_length]; exact ht_b5)
    replace hW := grown_setCells hf_b5 (rl (d15 (z13_2))) 0 hW
    replace hs3 := World.rangeAt_setCells_apart hs3 (b5) 0 (rl (d15 (z13_2))) (.inl (hn_b0_b5))
    replace ht_b0 := World.there_setCells ht_b0 (b5) 0 (rl (d15 (z13_2)))
    replace ht_b1 := World.there_setCells ht_b1 (b5) 0 (rl (d15 (z13_2)))
    replace ht_b2 := World.there_setCells ht_b2 (b5) 0 (rl (d15 (z13_2)))
    replace ht_b3 := World.there_setCells ht_b3 (b5) 0 (rl (d15 (z13_2)))
    replace ht_b4 := World.there_setCells ht_b4 (b5) 0 (rl (d15 (z13_2)))
    replace ht_b5 := World.there_setCells ht_b5 (b5) 0 (rl (d15 (z13_2)))
    replace hGl := hGl0.grown hW
    generalize w13.setCells (b5) 0 (rl (d15 (z13_2))) = w13s at *
    repeat ((fail_if_success (with_reducible show Code.wp _ (Code.region _ _ _) _ _ _)); go_step)
    replace hs3 := rangeAt_grown hs3 (gdrew w13s)
    replace hs13 := rangeAt_grown hs13 (gdrew w13s)
    replace ht_b0 := there_grown ht_b0 (gdrew w13s)
    replace ht_b1 := there_grown ht_b1 (gdrew w13s)
    replace ht_b2 := there_grown ht_b2 (gdrew w13s)
    replace ht_b3 := there_grown ht_b3 (gdrew w13s)
    replace ht_b4 := there_grown ht_b4 (gdrew w13s)
    replace ht_b5 := there_grown ht_b5 (gdrew w13s)
    replace hW := grown_trans hW (gdrew w13s)
    replace hGl := hGl0.grown hW
    refine wp_loose_fin [.val (rn (z13_2)), .val (bv ((z13_2) % p)), .val (bv (b % H)), .imm (pv ((z13_2) % p) (b % H)), .fin, .imm (.int .i64 (0))] (b1) 0 (fun _ => pcs ((z13_2) % p) (b % H)) (by kernel_rfl) (by kernel_rfl) (fun β => ?_) (fun β w14 hD => ?_)
    · refine Obs.cons (Ob.load (b5) 0 (rl (d15 (z13_2))) rfl rfl (by kernel_rfl) hs13 Tryd.underlying77 rfl (by rw [rl_length]; exact infoR)) ?_
      refine Obs.cons (Ob.call 74 #[rn (z13_2)] rfl (fun w => by kernel_rfl) (fun w hg => written_r (z13_2) hz13_2 w)) ?_
      refine Obs.cons (Ob.load (b0) 0 (bl (b % H)) rfl rfl (by kernel_rfl) hs3 Tryd.underlying23 rfl (by rw [bl_length]; exact info32)) ?_
      refine Obs.cons (Ob.imm rfl (fun w => exec_build rfl (by kernel_rfl) (build_q _ _ w))) ?_
      refine Obs.cons (Ob.fin rfl (by rw [pcs_length]; exact ht_b1) rfl (by kernel_rfl) (by kernel_rfl) (by rw [pcs_length]; exact infoQ) (pcs_one _ _)) ?_
      refine Obs.cons (Ob.imm rfl (fun w => by kernel_rfl)) ?_
      exact Obs.nil
    replace hs3 := rangeAt_grown hs3 hD.gr
    replace hs13 := rangeAt_grown hs13 hD.gr
    replace ht_b0 := there_grown ht_b0 hD.gr
    replace ht_b1 := there_grown ht_b1 hD.gr
    replace ht_b2 := there_grown ht_b2 hD.gr
    replace ht_b3 := there_grown ht_b3 hD.gr
    replace ht_b4 := there_grown ht_b4 hD.gr
    replace ht_b5 := there_grown ht_b5 hD.gr
    replace hW := grown_trans hW hD.gr
    clear hD
    simp only [finAct, putAll, valsFrom, Plan.value, Act.put, List.setIfInBounds_toArray, List.set_cons_zero, List.set_cons_succ]
    replace hGl := hGl0.grown hW
    have hs14 := World.rangeAt_setCells_same w14 (b1) 0 (pcs ((z13_2) % p) (b % H)) (by rw [pcs_length]; exact ht_b1)
    replace hW := grown_setCells hf_b1 (pcs ((z13_2) % p) (b % H)) 0 hW
    generalize w14.setCells (b1) 0 (pcs ((z13_2) % p) (b % H)) = w14s at *
    repeat go_step
    refine bodyPost_ret (v := .tuple #[pv ((z13_2) % p) (b % H), .int .i64 (0)]) (result_cell_tmp Tryd.results36 _ _ (b1) _ (.int .i64 (0)) ?hp ?hv hs14 Tryd.underlying39 rfl (by rw [pcs_length]; exact infoQ)) ?hd ?_
    case hp => rfl
    case hv => rfl
    case hd => rfl
    have hfin : (z13_2) % p = rt (uu (b % H)) (vv (b % H)) := hq13_2.out.trans (f_even_neg hro.out (rt_root hr).1 (rt_root hr).2.1 hpar.out)
    exact ⟨by rw [hfin], hW⟩
  · have hpar := Hid.of hp0
    clear hp0
    refine wp_plain [.imm (.pointer (some ⟨b5, 0, none⟩)), .val (.int .i64 (d15 ((z8_6) % p) 0)), .imm (.int .i64 (0)), .imm (.int .i64 (0)), .imm (.bool false)] (by kernel_rfl) (fun β => ?_) (fun β w12 hD => ?_)
    · refine Obs.cons (Ob.imm rfl (fun w => exec_idxR 0 (by decide) rfl (by kernel_rfl) (by kernel_rfl))) ?_
      refine Obs.cons (Ob.load1 (b5) 0 rfl rfl (by kernel_rfl) (block_lt_of_cell (cell_r hs10 (j := 0) (by decide))) (cell_r hs10 (by decide)) (fun w h => run_loadI w h)) ?_
      refine Obs.cons (Ob.imm rfl (fun w => exec_par ((z8_6) % p) 0 rfl (by kernel_rfl) (by kernel_rfl) (by have := hpar.out; omega))) ?_
      refine Obs.cons (Ob.imm rfl (fun w => by kernel_rfl)) ?_
      refine Obs.cons (Ob.imm rfl (fun w => by kernel_rfl)) ?_
      exact Obs.nil
    replace hs3 := rangeAt_grown hs3 hD.gr
    replace hs10 := rangeAt_grown hs10 hD.gr
    replace ht_b0 := there_grown ht_b0 hD.gr
    replace ht_b1 := there_grown ht_b1 hD.gr
    replace ht_b2 := there_grown ht_b2 hD.gr
    replace ht_b3 := there_grown ht_b3 hD.gr
    replace ht_b4 := there_grown ht_b4 hD.gr
    replace ht_b5 := there_grown ht_b5 hD.gr
    replace hW := grown_trans hW hD.gr
    clear hD
    simp only [finAct, putAll, valsFrom, Plan.value, Act.put, List.setIfInBounds_toArray, List.set_cons_zero, List.set_cons_succ]
    replace hGl := hGl0.grown hW
    repeat ((fail_if_success (with_reducible show Code.wp _ (Code.region _ _ _) _ _ _)); go_step)
    replace hs3 := rangeAt_grown hs3 (gdrew w12)
    replace hs10 := rangeAt_grown hs10 (gdrew w12)
    replace ht_b0 := there_grown ht_b0 (gdrew w12)
    replace ht_b1 := there_grown ht_b1 (gdrew w12)
    replace ht_b2 := there_grown ht_b2 (gdrew w12)
    replace ht_b3 := there_grown ht_b3 (gdrew w12)
    replace ht_b4 := there_grown ht_b4 (gdrew w12)
    replace ht_b5 := there_grown ht_b5 (gdrew w12)
    replace hW := grown_trans hW (gdrew w12)
    replace hGl := hGl0.grown hW
    refine wp_loose_fin [.val (rn ((z8_6) % p)), .val (bv (((z8_6) % p) % p)), .val (bv (b % H)), .imm (pv (((z8_6) % p) % p) (b % H)), .fin, .imm (.int .i64 (0))] (b1) 0 (fun _ => pcs (((z8_6) % p) % p) (b % H)) (by kernel_rfl) (by kernel_rfl) (fun β => ?_) (fun β w13 hD => ?_)
    · refine Obs.cons (Ob.load (b5) 0 (rl (d15 ((z8_6) % p))) rfl rfl (by kernel_rfl) hs10 Tryd.underlying77 rfl (by rw [rl_length]; exact infoR)) ?_
      refine Obs.cons (Ob.call 74 #[rn ((z8_6) % p)] rfl (fun w => by kernel_rfl) (fun w hg => written_r ((z8_6) % p) (mod_H _) w)) ?_
      refine Obs.cons (Ob.load (b0) 0 (bl (b % H)) rfl rfl (by kernel_rfl) hs3 Tryd.underlying23 rfl (by rw [bl_length]; exact info32)) ?_
      refine Obs.cons (Ob.imm rfl (fun w => exec_build rfl (by kernel_rfl) (build_q _ _ w))) ?_
      refine Obs.cons (Ob.fin rfl (by rw [pcs_length]; exact ht_b1) rfl (by kernel_rfl) (by kernel_rfl) (by rw [pcs_length]; exact infoQ) (pcs_one _ _)) ?_
      refine Obs.cons (Ob.imm rfl (fun w => by kernel_rfl)) ?_
      exact Obs.nil
    replace hs3 := rangeAt_grown hs3 hD.gr
    replace hs10 := rangeAt_grown hs10 hD.gr
    replace ht_b0 := there_grown ht_b0 hD.gr
    replace ht_b1 := there_grown ht_b1 hD.gr
    replace ht_b2 := there_grown ht_b2 hD.gr
    replace ht_b3 := there_grown ht_b3 hD.gr
    replace ht_b4 := there_grown ht_b4 hD.gr
    replace ht_b5 := there_grown ht_b5 hD.gr
    replace hW := grown_trans hW hD.gr
    clear hD
    simp only [finAct, putAll, valsFrom, Plan.value, Act.put, List.setIfInBounds_toArray, List.set_cons_zero, List.set_cons_succ]
    replace hGl := hGl0.grown hW
    have hs13 := World.rangeAt_setCells_same w13 (b1) 0 (pcs (((z8_6) % p) % p) (b % H)) (by rw [pcs_length]; exact ht_b1)
    replace hW := grown_setCells hf_b1 (pcs (((z8_6) % p) % p) (b % H)) 0 hW
    generalize w13.setCells (b1) 0 (pcs (((z8_6) % p) % p) (b % H)) = w13s at *
    repeat go_step
    refine bodyPost_ret (v := .tuple #[pv (((z8_6) % p) % p) (b % H), .int .i64 (0)]) (result_cell_tmp Tryd.results36 _ _ (b1) _ (.int .i64 (0)) ?hp ?hv hs13 Tryd.underlying39 rfl (by rw [pcs_length]; exact infoQ)) ?hd ?_
    case hp => rfl
    case hv => rfl
    case hd => rfl
    have hfin : ((z8_6) % p) % p = rt (uu (b % H)) (vv (b % H)) := (mm _).trans (f_even_keep hro.out (rt_root hr).1 (rt_root hr).2.1 hpar.out)
    exact ⟨by rw [hfin], hW⟩

end Go.Proofs.YtoimglbjepppmaaDoor
