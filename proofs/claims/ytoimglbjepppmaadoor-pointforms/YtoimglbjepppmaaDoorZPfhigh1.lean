import Derived.Test.YtoimglbjepppmaaDoorMk
namespace Go.Proofs.YtoimglbjepppmaaDoor
open Go.RowKit Go.Shelf FieldNum

set_option maxRecDepth 100000 in
set_option maxHeartbeats 2000000 in
theorem Pf_high1 (b : Nat) (hb : b < M) (hs : ¬ b < H) (e e1 : Nat) (he : Hid (e = 121666)) (he1 : Hid (e1 = 121665)) (heM : e < M) (he1M : e1 < M) (hy : ¬ b % H < p) (w : World) (hGl0 : Gl w) :
    Calls Tryd.prog 6 #[bv b] w fun e w' => e = .returned (.bool true) ∧ Grown w w' := by
  have hW := Grown.refl w
  have hGl := hGl0
  go_enter Tryd.func6, Tryd.ntmps6
  repeat ((fail_if_success (with_reducible show Code.wp _ (Code.region _ _ _) _ _ _)); go_step)
  refine wp_plain [.box 23 (bl (b)), .imm (.bool false)] (by kernel_rfl) (fun β => ?_) (fun β w1 hD => ?_)
  · refine Obs.cons (Ob.box rfl rfl (by kernel_rfl)) ?_
    refine Obs.cons (Ob.imm rfl (fun w => by kernel_rfl)) ?_
    exact Obs.nil
  obtain ⟨hf_b0, hr_b0⟩ := hD.bx 0 _ _ rfl
  replace hf_b0 := Nat.le_trans hW.2.2 hf_b0
  replace hW := grown_trans hW hD.gr
  clear hD
  simp only [finAct, putAll, valsFrom, Plan.value, Act.put, List.setIfInBounds_toArray, List.set_cons_zero, List.set_cons_succ]
  replace hGl := hGl0.grown hW
  generalize β 0 = b0 at *
  repeat ((fail_if_success (with_reducible show Code.wp _ (Code.region _ _ _) _ _ _)); go_step)
  refine wp_plain [.val (.bool true), .imm (.bool false)] (by kernel_rfl) (fun β => ?_) (fun β w2 hD => ?_)
  · refine Obs.cons (Ob.call 27 #[] rfl (fun w => by kernel_rfl) (fun w hg => base_is w (hGl.grown hg).g2)) ?_
    refine Obs.cons (Ob.imm rfl (fun w => by kernel_rfl)) ?_
    exact Obs.nil
  replace hr_b0 := rangeAt_grown hr_b0 hD.gr
  replace hW := grown_trans hW hD.gr
  clear hD
  simp only [finAct, putAll, valsFrom, Plan.value, Act.put, List.setIfInBounds_toArray, List.set_cons_zero, List.set_cons_succ]
  replace hGl := hGl0.grown hW
  repeat ((fail_if_success (with_reducible show Code.wp _ (Code.region _ _ _) _ _ _)); go_step)
  refine wp_plain [.imm (.pointer (some ⟨b0, 31, none⟩)), .val (.int .u8 (top (b) : Nat)), .imm (.bool true), .imm (.bool true)] (by kernel_rfl) (fun β => ?_) (fun β w3 hD => ?_)
  · refine Obs.cons (Ob.imm rfl (fun w => exec_idx 31 (by decide) rfl (by kernel_rfl) (by kernel_rfl))) ?_
    refine Obs.cons (Ob.load1 (b0) 31 rfl rfl (by kernel_rfl) (block_lt_of_cell (cell_top hr_b0)) (cell_top hr_b0) (fun w h => run_load8 w h)) ?_
    refine Obs.cons (Ob.imm rfl (fun w => exec_geq8 (top (b)) (128) rfl (by kernel_rfl) (by kernel_rfl) true (decide_eq_true (Nat.le_of_not_lt (not_low hb hs))))) ?_
    refine Obs.cons (Ob.imm rfl (fun w => by kernel_rfl)) ?_
    exact Obs.nil
  replace hr_b0 := rangeAt_grown hr_b0 hD.gr
  replace hW := grown_trans hW hD.gr
  clear hD
  simp only [finAct, putAll, valsFrom, Plan.value, Act.put, List.setIfInBounds_toArray, List.set_cons_zero, List.set_cons_succ]
  replace hGl := hGl0.grown hW
  repeat ((fail_if_success (with_reducible show Code.wp _ (Code.region _ _ _) _ _ _)); go_step)
  refine wp_plain [.val (bv (b)), .new 23 32, .put 1 1 (fun _ => bl (b))] (by kernel_rfl) (fun β => ?_) (fun β w4 hD => ?_)
  · refine Obs.cons (Ob.load (b0) 0 (bl (b)) rfl rfl (by kernel_rfl) hr_b0 Tryd.underlying23 rfl (by rw [bl_length]; exact info32)) ?_
    refine Obs.cons (Ob.new _ rfl rfl zero32.1 (by simp [bl_length])) ?_
    refine Obs.cons (Ob.put 23 rfl rfl rfl (by kernel_rfl) (by kernel_rfl) (by rw [bl_length]; exact info32) (bl_one _)) ?_
    exact Obs.nil
  have hn_b0_b1 := ne_of_fresh hr_b0 (hD.nw 1 _ _ rfl).1
  replace hr_b0 := rangeAt_grown hr_b0 hD.gr
  obtain ⟨hf_b1, ht_b1⟩ := hD.nw 1 _ _ rfl
  have hr_b1 : w4.rangeAt (β 1) 0 (bl (b)) := hD.rg 2 1 1 (fun _ => bl (b)) rfl
  replace hf_b1 := Nat.le_trans hW.2.2 hf_b1
  replace hW := grown_trans hW hD.gr
  clear hD
  simp only [finAct, putAll, valsFrom, Plan.value, Act.put, List.setIfInBounds_toArray, List.set_cons_zero, List.set_cons_succ]
  replace hGl := hGl0.grown hW
  generalize β (0 + 1) = b1 at *
  repeat ((fail_if_success (with_reducible show Code.wp _ (Code.region _ _ _) _ _ _)); go_step)
  refine wp_plain_fin [.imm (.pointer (some ⟨b1, 31, none⟩)), .val (.int .u8 (top (b) : Nat)), .imm (.int .u8 (top (b % H) : Nat)), .imm (.pointer (some ⟨b1, 31, none⟩)), .fin] (b1) 31 (fun _ => [.int .u8 (top (b % H) : Nat)]) (by kernel_rfl) (fun β => ?_) (fun β w5 hD => ?_)
  · refine Obs.cons (Ob.imm rfl (fun w => exec_idx 31 (by decide) rfl (by kernel_rfl) (by kernel_rfl))) ?_
    refine Obs.cons (Ob.load1 (b1) 31 rfl rfl (by kernel_rfl) (block_lt_of_cell (cell_top hr_b1)) (cell_top hr_b1) (fun w h => run_load8 w h)) ?_
    refine Obs.cons (Ob.imm rfl (fun w => exec_and8 (top (b)) (127) (top (b % H)) rfl (by kernel_rfl) (by kernel_rfl) (by rw [top_low]; exact and127 ⟨top b, top_lt b⟩))) ?_
    refine Obs.cons (Ob.imm rfl (fun w => exec_idx 31 (by decide) rfl (by kernel_rfl) (by kernel_rfl))) ?_
    refine Obs.cons (Ob.fin1 (.int .u8 (top (b % H) : Nat)) rfl rfl (there_31 ht_b1) rfl (by kernel_rfl) (by kernel_rfl) (fun w v0 h hf => run_store8 w v0 h hf)) ?_
    exact Obs.nil
  replace hr_b0 := rangeAt_grown hr_b0 hD.gr
  replace hr_b1 := rangeAt_grown hr_b1 hD.gr
  replace ht_b1 := there_grown ht_b1 hD.gr
  replace hW := grown_trans hW hD.gr
  clear hD
  simp only [finAct, putAll, valsFrom, Plan.value, Act.put, List.setIfInBounds_toArray, List.set_cons_zero, List.set_cons_succ]
  replace hGl := hGl0.grown hW
  have hs5 : (w5.setCells (b1) 31 [.int .u8 (top (b % H) : Nat)]).rangeAt (b1) 0 (bl (b % H)) := rangeAt_top hr_b1 (low_byte b)
  replace hW := grown_setCells hf_b1 [.int .u8 (top (b % H) : Nat)] 31 hW
  replace hr_b0 := World.rangeAt_setCells_apart hr_b0 (b1) 31 [.int .u8 (top (b % H) : Nat)] (.inl (hn_b0_b1))
  replace ht_b1 := World.there_setCells ht_b1 (b1) 31 [.int .u8 (top (b % H) : Nat)]
  replace hGl := hGl0.grown hW
  generalize w5.setCells (b1) 31 [.int .u8 (top (b % H) : Nat)] = w5s at *
  repeat ((fail_if_success (with_reducible show Code.wp _ (Code.region _ _ _) _ _ _)); go_step)
  refine wp_plain [.val (bv (b)), .val (.tuple #[pv (0) (0), .int .i64 (40)]), .imm (.tuple #[pv (0) (0), .int .i64 (40)]), .imm (pv (0) (0)), .imm (.int .i64 (40)), .new 37 64, .put 5 5 (fun _ => pcs (0) (0)), .imm (.int .i64 (40))] (by kernel_rfl) (fun β => ?_) (fun β w6 hD => ?_)
  · refine Obs.cons (Ob.load (b0) 0 (bl (b)) rfl rfl (by kernel_rfl) hr_b0 Tryd.underlying23 rfl (by rw [bl_length]; exact info32)) ?_
    refine Obs.cons (Ob.call 28 #[bv (b)] rfl (fun w => by kernel_rfl) (fun w hg => D_high1 b hb hs hy w (hGl.grown hg).g3)) ?_
    refine Obs.cons (Ob.imm rfl (fun w => by kernel_rfl)) ?_
    refine Obs.cons (Ob.imm rfl (fun w => by kernel_rfl)) ?_
    refine Obs.cons (Ob.imm rfl (fun w => by kernel_rfl)) ?_
    refine Obs.cons (Ob.new _ rfl rfl zeroP (by simp [pcs_length])) ?_
    refine Obs.cons (Ob.put 37 rfl rfl rfl (by kernel_rfl) (by kernel_rfl) (by rw [pcs_length]; exact infoP) (pcs_one _ _)) ?_
    refine Obs.cons (Ob.imm rfl (fun w => by kernel_rfl)) ?_
    exact Obs.nil
  replace hr_b0 := rangeAt_grown hr_b0 hD.gr
  replace hs5 := rangeAt_grown hs5 hD.gr
  replace ht_b1 := there_grown ht_b1 hD.gr
  obtain ⟨hf_b2, ht_b2⟩ := hD.nw 5 _ _ rfl
  have hr_b2 : w6.rangeAt (β 5) 0 (pcs (0) (0)) := hD.rg 6 5 5 (fun _ => pcs (0) (0)) rfl
  replace hf_b2 := Nat.le_trans hW.2.2 hf_b2
  replace hW := grown_trans hW hD.gr
  clear hD
  simp only [finAct, putAll, valsFrom, Plan.value, Act.put, List.setIfInBounds_toArray, List.set_cons_zero, List.set_cons_succ]
  replace hGl := hGl0.grown hW
  generalize β (0 + 1 + 1 + 1 + 1 + 1) = b2 at *
  have hr_b2x : w6.rangeAt b2 0 (bl (0)) := rangeAt_left hr_b2
  have hr_b2y : w6.rangeAt b2 32 (bl (0)) := rangeAt_right 32 (bl_length _) hr_b2
  repeat ((fail_if_success (with_reducible show Code.wp _ (Code.region _ _ _) _ _ _)); go_step)
  refine wp_plain [.val (bv (b % H)), .val (bv (fmul (b % H) (b % H))), .new 23 32, .put 2 2 (fun _ => bl (fmul (b % H) (b % H)))] (by kernel_rfl) (fun β => ?_) (fun β w7 hD => ?_)
  · refine Obs.cons (Ob.load (b1) 0 (bl (b % H)) rfl rfl (by kernel_rfl) hs5 Tryd.underlying23 rfl (by rw [bl_length]; exact info32)) ?_
    refine Obs.cons (Ob.call 17 #[bv (b % H)] rfl (fun w => by kernel_rfl) (fun w hg => Square_f (b % H) (low_lt b) w)) ?_
    refine Obs.cons (Ob.new _ rfl rfl zero32.1 (by simp [bl_length])) ?_
    refine Obs.cons (Ob.put 23 rfl rfl rfl (by kernel_rfl) (by kernel_rfl) (by rw [bl_length]; exact info32) (bl_one _)) ?_
    exact Obs.nil
  replace hr_b0 := rangeAt_grown hr_b0 hD.gr
  replace hs5 := rangeAt_grown hs5 hD.gr
  replace hr_b2 := rangeAt_grown hr_b2 hD.gr
  replace hr_b2x := rangeAt_grown hr_b2x hD.gr
  replace hr_b2y := rangeAt_grown hr_b2y hD.gr
  replace ht_b1 := there_grown ht_b1 hD.gr
  replace ht_b2 := there_grown ht_b2 hD.gr
  obtain ⟨hf_b3, ht_b3⟩ := hD.nw 2 _ _ rfl
  have hr_b3 : w7.rangeAt (β 2) 0 (bl (fmul (b % H) (b % H))) := hD.rg 3 2 2 (fun _ => bl (fmul (b % H) (b % H))) rfl
  replace hf_b3 := Nat.le_trans hW.2.2 hf_b3
  replace hW := grown_trans hW hD.gr
  clear hD
  simp only [finAct, putAll, valsFrom, Plan.value, Act.put, List.setIfInBounds_toArray, List.set_cons_zero, List.set_cons_succ]
  replace hGl := hGl0.grown hW
  generalize β (0 + 1 + 1) = b3 at *
  repeat ((fail_if_success (with_reducible show Code.wp _ (Code.region _ _ _) _ _ _)); go_step)
  replace hr_b0 := rangeAt_grown hr_b0 (gdrew w7)
  replace hs5 := rangeAt_grown hs5 (gdrew w7)
  replace hr_b2 := rangeAt_grown hr_b2 (gdrew w7)
  replace hr_b2x := rangeAt_grown hr_b2x (gdrew w7)
  replace hr_b2y := rangeAt_grown hr_b2y (gdrew w7)
  replace hr_b3 := rangeAt_grown hr_b3 (gdrew w7)
  replace ht_b1 := there_grown ht_b1 (gdrew w7)
  replace ht_b2 := there_grown ht_b2 (gdrew w7)
  replace ht_b3 := there_grown ht_b3 (gdrew w7)
  replace hW := grown_trans hW (gdrew w7)
  replace hGl := hGl0.grown hW
  refine wp_loose [.val (bv (fmul (b % H) (b % H))), .val (bv (1)), .val (bv (sb (fmul (b % H) (b % H)) (1))), .new 23 32, .put 3 3 (fun _ => bl (sb (fmul (b % H) (b % H)) (1)))] (by kernel_rfl) (by kernel_rfl) (fun β => ?_) (fun β w8 hD => ?_)
  · refine Obs.cons (Ob.load (b3) 0 (bl (fmul (b % H) (b % H))) rfl rfl (by kernel_rfl) hr_b3 Tryd.underlying23 rfl (by rw [bl_length]; exact info32)) ?_
    refine Obs.cons (Ob.call 30 #[.int .i64 (1)] rfl (fun w => by kernel_rfl) (fun w hg => number4 1 (by decide) w)) ?_
    refine Obs.cons (Ob.call 29 #[bv (fmul (b % H) (b % H)), bv (1)] rfl (fun w => by kernel_rfl) (fun w hg => Sub_any (fmul (b % H) (b % H)) (1) (fmul_lt _ _) (by decide) w)) ?_
    refine Obs.cons (Ob.new _ rfl rfl zero32.1 (by simp [bl_length])) ?_
    refine Obs.cons (Ob.put 23 rfl rfl rfl (by kernel_rfl) (by kernel_rfl) (by rw [bl_length]; exact info32) (bl_one _)) ?_
    exact Obs.nil
  replace hr_b0 := rangeAt_grown hr_b0 hD.gr
  replace hs5 := rangeAt_grown hs5 hD.gr
  replace hr_b2 := rangeAt_grown hr_b2 hD.gr
  replace hr_b2x := rangeAt_grown hr_b2x hD.gr
  replace hr_b2y := rangeAt_grown hr_b2y hD.gr
  replace hr_b3 := rangeAt_grown hr_b3 hD.gr
  replace ht_b1 := there_grown ht_b1 hD.gr
  replace ht_b2 := there_grown ht_b2 hD.gr
  replace ht_b3 := there_grown ht_b3 hD.gr
  obtain ⟨hf_b4, ht_b4⟩ := hD.nw 3 _ _ rfl
  have hr_b4 : w8.rangeAt (β 3) 0 (bl (sb (fmul (b % H) (b % H)) (1))) := hD.rg 4 3 3 (fun _ => bl (sb (fmul (b % H) (b % H)) (1))) rfl
  replace hf_b4 := Nat.le_trans hW.2.2 hf_b4
  replace hW := grown_trans hW hD.gr
  clear hD
  simp only [finAct, putAll, valsFrom, Plan.value, Act.put, List.setIfInBounds_toArray, List.set_cons_zero, List.set_cons_succ]
  replace hGl := hGl0.grown hW
  generalize β (0 + 1 + 1 + 1) = b4 at *
  repeat ((fail_if_success (with_reducible show Code.wp _ (Code.region _ _ _) _ _ _)); go_step)
  replace hr_b0 := rangeAt_grown hr_b0 (gdrew w8)
  replace hs5 := rangeAt_grown hs5 (gdrew w8)
  replace hr_b2 := rangeAt_grown hr_b2 (gdrew w8)
  replace hr_b2x := rangeAt_grown hr_b2x (gdrew w8)
  replace hr_b2y := rangeAt_grown hr_b2y (gdrew w8)
  replace hr_b3 := rangeAt_grown hr_b3 (gdrew w8)
  replace hr_b4 := rangeAt_grown hr_b4 (gdrew w8)
  replace ht_b1 := there_grown ht_b1 (gdrew w8)
  replace ht_b2 := there_grown ht_b2 (gdrew w8)
  replace ht_b3 := there_grown ht_b3 (gdrew w8)
  replace ht_b4 := there_grown ht_b4 (gdrew w8)
  replace hW := grown_trans hW (gdrew w8)
  replace hGl := hGl0.grown hW
  refine wp_loose [.val (bv (e)), .val (bv (fmul (b % H) (b % H))), .val (bv (e1)), .val (bv (e)), .val (bv (inv (e))), .val (bv (fmul (e1) (inv (e)))), .val (bv (ng (fmul (e1) (inv (e))))), .val (bv (fmul (fmul (b % H) (b % H)) (ng (fmul (e1) (inv (e)))))), .val (bv (1)), .val (bv (fadd (fmul (fmul (b % H) (b % H)) (ng (fmul (e1) (inv (e))))) (1))), .val (bv (fmul (e) (fadd (fmul (fmul (b % H) (b % H)) (ng (fmul (e1) (inv (e))))) (1)))), .new 23 32, .put 11 11 (fun _ => bl (fmul (e) (fadd (fmul (fmul (b % H) (b % H)) (ng (fmul (e1) (inv (e))))) (1))))] (by kernel_rfl) (by kernel_rfl) (fun β => ?_) (fun β w9 hD => ?_)
  · refine Obs.cons (Ob.call 30 #[.int .i64 (121666)] rfl (fun w => by kernel_rfl) (fun w hg => number4v e 121666 (by rw [he.out]; rfl) (by rw [he.out]; decide) w)) ?_
    refine Obs.cons (Ob.load (b3) 0 (bl (fmul (b % H) (b % H))) rfl rfl (by kernel_rfl) hr_b3 Tryd.underlying23 rfl (by rw [bl_length]; exact info32)) ?_
    refine Obs.cons (Ob.call 30 #[.int .i64 (121665)] rfl (fun w => by kernel_rfl) (fun w hg => number4v e1 121665 (by rw [he1.out]; rfl) (by rw [he1.out]; decide) w)) ?_
    refine Obs.cons (Ob.call 30 #[.int .i64 (121666)] rfl (fun w => by kernel_rfl) (fun w hg => number4v e 121666 (by rw [he.out]; rfl) (by rw [he.out]; decide) w)) ?_
    refine Obs.cons (Ob.call 11 #[bv (e)] rfl (fun w => by kernel_rfl) (fun w hg => Invert_any (e) heM w (hGl.grown hg).g0.pw)) ?_
    refine Obs.cons (Ob.call 12 #[bv (e1), bv (inv (e))] rfl (fun w => by kernel_rfl) (fun w hg => Mul_f (e1) (inv (e)) he1M (finv_lt _) w)) ?_
    refine Obs.cons (Ob.call 31 #[bv (fmul (e1) (inv (e)))] rfl (fun w => by kernel_rfl) (fun w hg => Neg_any (fmul (e1) (inv (e))) (fmul_lt _ _) w)) ?_
    refine Obs.cons (Ob.call 12 #[bv (fmul (b % H) (b % H)), bv (ng (fmul (e1) (inv (e))))] rfl (fun w => by kernel_rfl) (fun w hg => Mul_f (fmul (b % H) (b % H)) (ng (fmul (e1) (inv (e)))) (fmul_lt _ _) (fng_lt _) w)) ?_
    refine Obs.cons (Ob.call 30 #[.int .i64 (1)] rfl (fun w => by kernel_rfl) (fun w hg => number4 1 (by decide) w)) ?_
    refine Obs.cons (Ob.call 19 #[bv (fmul (fmul (b % H) (b % H)) (ng (fmul (e1) (inv (e))))), bv (1)] rfl (fun w => by kernel_rfl) (fun w hg => Add_f (fmul (fmul (b % H) (b % H)) (ng (fmul (e1) (inv (e))))) (1) (fmul_lt _ _) (by decide) w)) ?_
    refine Obs.cons (Ob.call 12 #[bv (e), bv (fadd (fmul (fmul (b % H) (b % H)) (ng (fmul (e1) (inv (e))))) (1))] rfl (fun w => by kernel_rfl) (fun w hg => Mul_f (e) (fadd (fmul (fmul (b % H) (b % H)) (ng (fmul (e1) (inv (e))))) (1)) heM (fadd_lt _ _) w)) ?_
    refine Obs.cons (Ob.new _ rfl rfl zero32.1 (by simp [bl_length])) ?_
    refine Obs.cons (Ob.put 23 rfl rfl rfl (by kernel_rfl) (by kernel_rfl) (by rw [bl_length]; exact info32) (bl_one _)) ?_
    exact Obs.nil
  replace hr_b0 := rangeAt_grown hr_b0 hD.gr
  replace hs5 := rangeAt_grown hs5 hD.gr
  replace hr_b2 := rangeAt_grown hr_b2 hD.gr
  replace hr_b2x := rangeAt_grown hr_b2x hD.gr
  replace hr_b2y := rangeAt_grown hr_b2y hD.gr
  replace hr_b3 := rangeAt_grown hr_b3 hD.gr
  replace hr_b4 := rangeAt_grown hr_b4 hD.gr
  replace ht_b1 := there_grown ht_b1 hD.gr
  replace ht_b2 := there_grown ht_b2 hD.gr
  replace ht_b3 := there_grown ht_b3 hD.gr
  replace ht_b4 := there_grown ht_b4 hD.gr
  obtain ⟨hf_b5, ht_b5⟩ := hD.nw 11 _ _ rfl
  have hr_b5 : w9.rangeAt (β 11) 0 (bl (fmul (e) (fadd (fmul (fmul (b % H) (b % H)) (ng (fmul (e1) (inv (e))))) (1)))) := hD.rg 12 11 11 (fun _ => bl (fmul (e) (fadd (fmul (fmul (b % H) (b % H)) (ng (fmul (e1) (inv (e))))) (1)))) rfl
  replace hf_b5 := Nat.le_trans hW.2.2 hf_b5
  replace hW := grown_trans hW hD.gr
  clear hD
  simp only [finAct, putAll, valsFrom, Plan.value, Act.put, List.setIfInBounds_toArray, List.set_cons_zero, List.set_cons_succ]
  replace hGl := hGl0.grown hW
  generalize β (0 + 1 + 1 + 1 + 1 + 1 + 1 + 1 + 1 + 1 + 1 + 1) = b5 at *
  repeat ((fail_if_success (with_reducible show Code.wp _ (Code.region _ _ _) _ _ _)); go_step)
  replace hr_b0 := rangeAt_grown hr_b0 (gdrew w9)
  replace hs5 := rangeAt_grown hs5 (gdrew w9)
  replace hr_b2 := rangeAt_grown hr_b2 (gdrew w9)
  replace hr_b2x := rangeAt_grown hr_b2x (gdrew w9)
  replace hr_b2y := rangeAt_grown hr_b2y (gdrew w9)
  replace hr_b3 := rangeAt_grown hr_b3 (gdrew w9)
  replace hr_b4 := rangeAt_grown hr_b4 (gdrew w9)
  replace hr_b5 := rangeAt_grown hr_b5 (gdrew w9)
  replace ht_b1 := there_grown ht_b1 (gdrew w9)
  replace ht_b2 := there_grown ht_b2 (gdrew w9)
  replace ht_b3 := there_grown ht_b3 (gdrew w9)
  replace ht_b4 := there_grown ht_b4 (gdrew w9)
  replace ht_b5 := there_grown ht_b5 (gdrew w9)
  replace hW := grown_trans hW (gdrew w9)
  replace hGl := hGl0.grown hW
  refine wp_loose [.val (bv (sb (fmul (b % H) (b % H)) (1))), .val (bv (e)), .val (bv (fmul (sb (fmul (b % H) (b % H)) (1)) (e))), .val (bv (fmul (e) (fadd (fmul (fmul (b % H) (b % H)) (ng (fmul (e1) (inv (e))))) (1)))), .val (bv (fmul (fmul (sb (fmul (b % H) (b % H)) (1)) (e)) (fmul (e) (fadd (fmul (fmul (b % H) (b % H)) (ng (fmul (e1) (inv (e))))) (1))))), .val (.int .i64 (fleg e e1 (b % H))), .imm (.int .i64 (fleg e e1 (b % H)))] (by kernel_rfl) (by kernel_rfl) (fun β => ?_) (fun β w10 hD => ?_)
  · refine Obs.cons (Ob.load (b4) 0 (bl (sb (fmul (b % H) (b % H)) (1))) rfl rfl (by kernel_rfl) hr_b4 Tryd.underlying23 rfl (by rw [bl_length]; exact info32)) ?_
    refine Obs.cons (Ob.call 30 #[.int .i64 (121666)] rfl (fun w => by kernel_rfl) (fun w hg => number4v e 121666 (by rw [he.out]; rfl) (by rw [he.out]; decide) w)) ?_
    refine Obs.cons (Ob.call 12 #[bv (sb (fmul (b % H) (b % H)) (1)), bv (e)] rfl (fun w => by kernel_rfl) (fun w hg => Mul_f (sb (fmul (b % H) (b % H)) (1)) (e) (fsb_lt _ _) heM w)) ?_
    refine Obs.cons (Ob.load (b5) 0 (bl (fmul (e) (fadd (fmul (fmul (b % H) (b % H)) (ng (fmul (e1) (inv (e))))) (1)))) rfl rfl (by kernel_rfl) hr_b5 Tryd.underlying23 rfl (by rw [bl_length]; exact info32)) ?_
    refine Obs.cons (Ob.call 12 #[bv (fmul (sb (fmul (b % H) (b % H)) (1)) (e)), bv (fmul (e) (fadd (fmul (fmul (b % H) (b % H)) (ng (fmul (e1) (inv (e))))) (1)))] rfl (fun w => by kernel_rfl) (fun w hg => Mul_f (fmul (sb (fmul (b % H) (b % H)) (1)) (e)) (fmul (e) (fadd (fmul (fmul (b % H) (b % H)) (ng (fmul (e1) (inv (e))))) (1))) (fmul_lt _ _) (fmul_lt _ _) w)) ?_
    refine Obs.cons (Ob.call 20 #[bv (fmul (fmul (sb (fmul (b % H) (b % H)) (1)) (e)) (fmul (e) (fadd (fmul (fmul (b % H) (b % H)) (ng (fmul (e1) (inv (e))))) (1))))] rfl (fun w => by kernel_rfl) (fun w hg => Legendre_any (fmul (fmul (sb (fmul (b % H) (b % H)) (1)) (e)) (fmul (e) (fadd (fmul (fmul (b % H) (b % H)) (ng (fmul (e1) (inv (e))))) (1)))) (fmul_lt _ _) w (hGl.grown hg).g0.pw (hGl.grown hg).one)) ?_
    refine Obs.cons (Ob.imm rfl (fun w => by kernel_rfl)) ?_
    exact Obs.nil
  replace hr_b0 := rangeAt_grown hr_b0 hD.gr
  replace hs5 := rangeAt_grown hs5 hD.gr
  replace hr_b2 := rangeAt_grown hr_b2 hD.gr
  replace hr_b2x := rangeAt_grown hr_b2x hD.gr
  replace hr_b2y := rangeAt_grown hr_b2y hD.gr
  replace hr_b3 := rangeAt_grown hr_b3 hD.gr
  replace hr_b4 := rangeAt_grown hr_b4 hD.gr
  replace hr_b5 := rangeAt_grown hr_b5 hD.gr
  replace ht_b1 := there_grown ht_b1 hD.gr
  replace ht_b2 := there_grown ht_b2 hD.gr
  replace ht_b3 := there_grown ht_b3 hD.gr
  replace ht_b4 := there_grown ht_b4 hD.gr
  replace ht_b5 := there_grown ht_b5 hD.gr
  replace hW := grown_trans hW hD.gr
  clear hD
  simp only [finAct, putAll, valsFrom, Plan.value, Act.put, List.setIfInBounds_toArray, List.set_cons_zero, List.set_cons_succ]
  replace hGl := hGl0.grown hW
  repeat ((fail_if_success (with_reducible show Code.wp _ (Code.region _ _ _) _ _ _)); go_step)
  refine wp_plain [.val (bv (b % H)), .val (.bool false), .imm (.bool true), .imm (.bool true)] (by kernel_rfl) (fun β => ?_) (fun β w11 hD => ?_)
  · refine Obs.cons (Ob.load (b1) 0 (bl (b % H)) rfl rfl (by kernel_rfl) hs5 Tryd.underlying23 rfl (by rw [bl_length]; exact info32)) ?_
    refine Obs.cons (Ob.call 18 #[bv (b % H)] rfl (fun w => by kernel_rfl) (fun w hg => canon_is (b % H) (low_lt b) false (decide_eq_false hy) w)) ?_
    refine Obs.cons (Ob.imm rfl (fun w => by kernel_rfl)) ?_
    refine Obs.cons (Ob.imm rfl (fun w => by kernel_rfl)) ?_
    exact Obs.nil
  replace hr_b0 := rangeAt_grown hr_b0 hD.gr
  replace hs5 := rangeAt_grown hs5 hD.gr
  replace hr_b2 := rangeAt_grown hr_b2 hD.gr
  replace hr_b2x := rangeAt_grown hr_b2x hD.gr
  replace hr_b2y := rangeAt_grown hr_b2y hD.gr
  replace hr_b3 := rangeAt_grown hr_b3 hD.gr
  replace hr_b4 := rangeAt_grown hr_b4 hD.gr
  replace hr_b5 := rangeAt_grown hr_b5 hD.gr
  replace ht_b1 := there_grown ht_b1 hD.gr
  replace ht_b2 := there_grown ht_b2 hD.gr
  replace ht_b3 := there_grown ht_b3 hD.gr
  replace ht_b4 := there_grown ht_b4 hD.gr
  replace ht_b5 := there_grown ht_b5 hD.gr
  replace hW := grown_trans hW hD.gr
  clear hD
  simp only [finAct, putAll, valsFrom, Plan.value, Act.put, List.setIfInBounds_toArray, List.set_cons_zero, List.set_cons_succ]
  replace hGl := hGl0.grown hW
  repeat ((fail_if_success (with_reducible show Code.wp _ (Code.region _ _ _) _ _ _)); go_step)
  refine wp_plain [.imm (.int .i64 (40)), .val (.int .i64 (40)), .imm (.bool true), .imm (.bool true), .imm (.int .i64 (40)), .val (.int .i64 (40)), .imm (.bool true), .imm (.bool true), .imm (.bool true), .val (pv (0) (0)), .imm (pv (0) (0)), .imm (.bool true), .imm (.bool true), .imm (.bool true)] (by kernel_rfl) (fun β => ?_) (fun β w12 hD => ?_)
  · refine Obs.cons (Ob.imm rfl (fun w => by kernel_rfl)) ?_
    refine Obs.cons (Ob.call 32 #[.int .i64 (40)] rfl (fun w => by kernel_rfl) (fun w hg => num_is (40) w)) ?_
    refine Obs.cons (Ob.imm rfl (fun w => by kernel_rfl)) ?_
    refine Obs.cons (Ob.imm rfl (fun w => by kernel_rfl)) ?_
    refine Obs.cons (Ob.imm (by kernel_rfl) (fun w => by kernel_rfl)) ?_
    refine Obs.cons (Ob.call 32 #[.int .i64 (40)] (by kernel_rfl) (fun w => by kernel_rfl) (fun w hg => num_is (40) w)) ?_
    refine Obs.cons (Ob.imm (by kernel_rfl) (fun w => by kernel_rfl)) ?_
    refine Obs.cons (Ob.imm rfl (fun w => by kernel_rfl)) ?_
    refine Obs.cons (Ob.imm rfl (fun w => by kernel_rfl)) ?_
    refine Obs.cons (Ob.load (b2) 0 (pcs (0) (0)) (by kernel_rfl) rfl (by kernel_rfl) hr_b2 Tryd.underlying37 rfl (by rw [pcs_length]; exact infoP)) ?_
    refine Obs.cons (Ob.imm (by kernel_rfl) (fun w => exec_build rfl (by kernel_rfl) (build_pt0 w))) ?_
    refine Obs.cons (Ob.imm (by kernel_rfl) (fun w => exec_eqlP rfl (0) (0) (0) (0) (by kernel_rfl) (by kernel_rfl) (by decide) (by decide) (by decide) (by decide) true (by decide) w)) ?_
    refine Obs.cons (Ob.imm rfl (fun w => by kernel_rfl)) ?_
    refine Obs.cons (Ob.imm rfl (fun w => by kernel_rfl)) ?_
    exact Obs.nil
  replace hr_b0 := rangeAt_grown hr_b0 hD.gr
  replace hs5 := rangeAt_grown hs5 hD.gr
  replace hr_b2 := rangeAt_grown hr_b2 hD.gr
  replace hr_b2x := rangeAt_grown hr_b2x hD.gr
  replace hr_b2y := rangeAt_grown hr_b2y hD.gr
  replace hr_b3 := rangeAt_grown hr_b3 hD.gr
  replace hr_b4 := rangeAt_grown hr_b4 hD.gr
  replace hr_b5 := rangeAt_grown hr_b5 hD.gr
  replace ht_b1 := there_grown ht_b1 hD.gr
  replace ht_b2 := there_grown ht_b2 hD.gr
  replace ht_b3 := there_grown ht_b3 hD.gr
  replace ht_b4 := there_grown ht_b4 hD.gr
  replace ht_b5 := there_grown ht_b5 hD.gr
  replace hW := grown_trans hW hD.gr
  clear hD
  simp only [finAct, putAll, valsFrom, Plan.value, Act.put, List.setIfInBounds_toArray, List.set_cons_zero, List.set_cons_succ]
  replace hGl := hGl0.grown hW
  repeat go_step
  go_ret
  exact ⟨rfl, hW⟩
end Go.Proofs.YtoimglbjepppmaaDoor
